/-
  BlockBounds: the first hundred hashes, reckoned.
-/
import Derived.Test.YtpfjkjogljilnaaDoorBbH
namespace Go.Proofs.YtpfjkjogljilnaaDoor
open Go.RowKit

def vI0 : List Nat := [3319074457, 1812026854, 2289179422, 2072614530, 3487832010]
theorem wI0 : allB vI0 0 = true := by decide +kernel
def vI1 : List Nat := [1527519017, 1376078995, 395398196, 557858342, 874850046]
theorem wI1 : allB vI1 5 = true := by decide +kernel
def vI2 : List Nat := [4021266339, 1243523783, 2959438253, 3574871859, 2262860141]
theorem wI2 : allB vI2 10 = true := by decide +kernel
def vI3 : List Nat := [200379524, 2091897477, 2493359671, 880748791, 1965683935]
theorem wI3 : allB vI3 15 = true := by decide +kernel
def vI4 : List Nat := [479777453, 225144781, 4128816034, 1486938291, 643166479]
theorem wI4 : allB vI4 20 = true := by decide +kernel
def vI5 : List Nat := [1434885302, 3296534625, 2550530777, 890654017, 3549599777]
theorem wI5 : allB vI5 25 = true := by decide +kernel
def vI6 : List Nat := [2477145524, 4032572948, 100112732, 4015293093, 1994317506]
theorem wI6 : allB vI6 30 = true := by decide +kernel
def vI7 : List Nat := [655079616, 3949871421, 4294609213, 2080786646, 3867738394]
theorem wI7 : allB vI7 35 = true := by decide +kernel
def vI8 : List Nat := [4036513389, 2296730834, 2318955533, 4144084632, 516996681]
theorem wI8 : allB vI8 40 = true := by decide +kernel
def vI9 : List Nat := [4194986999, 676392114, 3805368924, 234869988, 3207458310]
theorem wI9 : allB vI9 45 = true := by decide +kernel
def vI10 : List Nat := [2320735251, 3811536170, 2053614310, 3955539607, 972016098]
theorem wI10 : allB vI10 50 = true := by decide +kernel
def vI11 : List Nat := [1161400729, 2436875267, 3116078584, 4092210421, 1791730974]
theorem wI11 : allB vI11 55 = true := by decide +kernel
def vI12 : List Nat := [2405843981, 33475049, 1665970579, 2205138245, 2836650606]
theorem wI12 : allB vI12 60 = true := by decide +kernel
def vI13 : List Nat := [3322184751, 2864249691, 1166501326, 1802152309, 315469545]
theorem wI13 : allB vI13 65 = true := by decide +kernel
def vI14 : List Nat := [2797372109, 1949126660, 3392639083, 1425359932, 3464217889]
theorem wI14 : allB vI14 70 = true := by decide +kernel
def vI15 : List Nat := [421572689, 2912814984, 1330582206, 2991815963, 1566179134]
theorem wI15 : allB vI15 75 = true := by decide +kernel
def vI16 : List Nat := [642802114, 437062980, 3388265595, 1453591302, 1186345645]
theorem wI16 : allB vI16 80 = true := by decide +kernel
def vI17 : List Nat := [743588481, 444855140, 1666438462, 3078410520, 3675732926]
theorem wI17 : allB vI17 85 = true := by decide +kernel
def vI18 : List Nat := [1005608089, 2772295371, 303924636, 408143814, 1720782144]
theorem wI18 : allB vI18 90 = true := by decide +kernel
def vI19 : List Nat := [1460972301, 2166512896, 4076712786, 97051256, 4234075724]
theorem wI19 : allB vI19 95 = true := by decide +kernel
end Go.Proofs.YtpfjkjogljilnaaDoor
