/-
  tx: ids, the program's and the document's.
-/
import Derived.Test.YtjcbihdhkaiidaaTxD
import Derived.Test.YtjcbihdhkaiidaaPBlQ6
namespace Go.Proofs.Ytjcbihdhkaiidaa
open Go.RowKit

def nmTx : ByteArray := ⟨#[116, 120]⟩
/-- A transaction's id. -/
def idT (t : TxR) : List UInt8 := bif checkT t == 0 then shaB (tagB (cutN nmTx) (packT t)) else zero32
theorem idT_len (t : TxR) : (idT t).length = 32 := by
  unfold idT
  cases checkT t == 0
  · rfl
  · exact shaB_length _
theorem packT_len {t : TxR} {w : World} (h : TxOk w t) (hz : checkT t = 0) : (packT t).length ≤ 30000 := by
  obtain ⟨⟨_, hi2⟩, ⟨_, ho2⟩, hwl⟩ := checkT_ok hz
  have h1 := insB_len (l := t.ins) (fun i hi => ⟨(h.each i hi).id, hwl i hi⟩)
  have h2 := outsB_len (l := t.outs) (fun i hi => (h.eacho i hi).lock)
  unfold packT
  simp only [List.length_append, leB_length]
  omega

end Go.Proofs.Ytjcbihdhkaiidaa
