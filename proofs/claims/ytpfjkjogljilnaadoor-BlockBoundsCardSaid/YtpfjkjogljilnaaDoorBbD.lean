/-
  BlockBounds: the second hundred hashes, reckoned.
-/
import Derived.Test.YtpfjkjogljilnaaDoorBbH
namespace Go.Proofs.YtpfjkjogljilnaaDoor
open Go.RowKit

def vI20 : List Nat := [922108280, 3239108942, 738222169, 2107671405, 2640209379]
theorem wI20 : allB vI20 100 = true := by decide +kernel
def vI21 : List Nat := [2790947380, 2566483223, 1643282647, 3967860587, 1115354845]
theorem wI21 : allB vI21 105 = true := by decide +kernel
def vI22 : List Nat := [2414317414, 2039414333, 1499677273, 1983740923, 1448532364]
theorem wI22 : allB vI22 110 = true := by decide +kernel
def vI23 : List Nat := [2934872919, 1524051247, 1460731691, 2927167302, 2568619659]
theorem wI23 : allB vI23 115 = true := by decide +kernel
def vI24 : List Nat := [2254243022, 2703328073, 1572343503, 2705332944, 2204656018]
theorem wI24 : allB vI24 120 = true := by decide +kernel
def vI25 : List Nat := [3700260016, 1401460020, 808192621, 2041602311, 4228387969]
theorem wI25 : allB vI25 125 = true := by decide +kernel
def vI26 : List Nat := [1203579037, 3099006587, 1189756822, 679008200, 3002529646]
theorem wI26 : allB vI26 130 = true := by decide +kernel
def vI27 : List Nat := [1536810499, 3992111742, 2808363955, 3863877214, 2512414570]
theorem wI27 : allB vI27 135 = true := by decide +kernel
def vI28 : List Nat := [43056838, 1161057908, 2612667988, 1252069305, 2158127522]
theorem wI28 : allB vI28 140 = true := by decide +kernel
def vI29 : List Nat := [1590479589, 2299082203, 2052195773, 4165956936, 2141304430]
theorem wI29 : allB vI29 145 = true := by decide +kernel
def vI30 : List Nat := [2633940807, 1233135002, 4147905084, 3141029582, 1817688528]
theorem wI30 : allB vI30 150 = true := by decide +kernel
def vI31 : List Nat := [2533699229, 1527157799, 640921477, 2341859261, 194658564]
theorem wI31 : allB vI31 155 = true := by decide +kernel
def vI32 : List Nat := [3230922998, 4248639429, 730858500, 1615024515, 1741242978]
theorem wI32 : allB vI32 160 = true := by decide +kernel
def vI33 : List Nat := [3825507422, 571571204, 269736491, 3460300641, 2409271373]
theorem wI33 : allB vI33 165 = true := by decide +kernel
def vI34 : List Nat := [2619324143, 4116107381, 2737014334, 3634600817, 1631489369]
theorem wI34 : allB vI34 170 = true := by decide +kernel
def vI35 : List Nat := [2030447099, 1124450142, 2771321349, 1395729746, 3430171059]
theorem wI35 : allB vI35 175 = true := by decide +kernel
def vI36 : List Nat := [354476736, 3372507709, 410399658, 605368784, 2084646471]
theorem wI36 : allB vI36 180 = true := by decide +kernel
def vI37 : List Nat := [696247595, 3199660025, 3637091435, 1549141663, 245324108]
theorem wI37 : allB vI37 185 = true := by decide +kernel
def vI38 : List Nat := [473393620, 4060806133, 3484373350, 3721590115, 4192056131]
theorem wI38 : allB vI38 190 = true := by decide +kernel
def vI39 : List Nat := [1931562373, 647151215, 2274860930, 422245983, 2166442624]
theorem wI39 : allB vI39 195 = true := by decide +kernel
end Go.Proofs.YtpfjkjogljilnaaDoor
