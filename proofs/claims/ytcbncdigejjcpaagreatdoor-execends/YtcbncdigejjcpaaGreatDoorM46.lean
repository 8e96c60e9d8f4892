/- XL. -/
import Derived.Deep.DeepCutAuto
import Derived.Test.YtcbncdigejjcpaaGreatDoorM44
namespace Go.Proofs.YtcbncdigejjcpaaGreatDoor.Ex
open Re (Rep)
open Go.RowKit

/-- behind a Get: the entry in block eb -/
structure Got (w wx : World) (b : Nat) (nm : Nm) (p : Option Addr) (n c : Nat) (eb : Nat) (y : E8) (L : List EP) (k : Nm) : Prop where
  hb : Below w.heap.size w wx
  hc : wx.heap[w.heap.size]? = some (cob b nm p n c)
  hz : wx.heap[w.heap.size + 1]? = some rob0
  he : wx.heap[eb]? = some (.cells y.cells 51 (0, 0))
  pr : pr8 y = (getL k L).getD ([], zeroV, 0)
  own : OwnEn (w.heap.size + 2) wx y
/-- the entry is laid behind the call -/
theorem got_new {w w1 w2 : World} {b : Nat} {nm : Nm} {p : Option Addr} {n c : Nat} {y : E8} {L : List EP} {k : Nm} (h1 : Below w.heap.size w w1) (hs : w.heap.size + 2 ≤ w1.heap.size) (hc : w1.heap[w.heap.size]? = some (cob b nm p n c)) (hz : w1.heap[w.heap.size + 1]? = some rob0) (hp : pr8 y = (getL k L).getD ([], zeroV, 0)) (ho : OwnEn w1.heap.size w2 y) (hb : Below w1.heap.size w1 w2) : Got w (w2.alloc (eob y)) b nm p n c w2.heap.size y L k := by
  have k2 := below_alloc w2 (eob y)
  have s2 := hb.size
  exact ⟨h1.trans ((hb.trans (k2.mono hb.size)).mono h1.size), (k2.block _ (by omega)).trans ((hb.block _ (by omega)).trans hc), (k2.block _ (by omega)).trans ((hb.block _ (by omega)).trans hz), heap_alloc_new w2 _, hp, (ho.mono hs).below k2⟩
/-- the block was there ahead of it -/
theorem got_old {w w1 w2 : World} {b : Nat} {nm : Nm} {p : Option Addr} {n c : Nat} {y : E8} {L : List EP} {k : Nm} {eb : Nat} (h1 : Below w.heap.size w w1) (hs : w.heap.size + 2 ≤ eb) (hs1 : eb < w1.heap.size) (hc : w1.heap[w.heap.size]? = some (cob b nm p n c)) (hz : w1.heap[w.heap.size + 1]? = some rob0) (he : w1.heap[eb]? = some eob0) (hp : pr8 y = (getL k L).getD ([], zeroV, 0)) (ho : OwnEn w1.heap.size w2 y) (hb : Below w1.heap.size w1 w2) :
    Got w ((((((((w2.setCell ⟨eb, 0, none⟩ (txt y.key)).setCell ⟨eb, 1, none⟩ (.int .i64 y.m.kind)).setCell ⟨eb, 2, none⟩ (txt y.m.text)).setCell ⟨eb, 3, none⟩ (.slice y.pp y.m.pairs.length y.pc)).setCell ⟨eb, 4, none⟩ (.slice y.ip y.m.items.length y.ic)).setCell ⟨eb, 5, none⟩ (.int .i64 y.m.px)).setCell ⟨eb, 6, none⟩ (.int .i64 y.m.py)).setCell ⟨eb, 7, none⟩ (.int .i64 y.ends)) b nm p n c eb y L k := by
  have e2 := (hb.block eb hs1).trans he
  have k2 := set8_onlyB w2 eb (txt y.key) (.int .i64 y.m.kind) (txt y.m.text) (.slice y.pp y.m.pairs.length y.pc) (.slice y.ip y.m.items.length y.ic) (.int .i64 y.m.px) (.int .i64 y.m.py) (.int .i64 y.ends)
  exact ⟨k2.below (h1.trans (hb.mono h1.size)) (by omega), (k2.block _ (by omega)).trans ((hb.block _ (by omega)).trans hc), (k2.block _ (by omega)).trans ((hb.block _ (by omega)).trans hz), Dc.DE.set8_same _ _ _ _ _ _ _ _ e2, hp, (ho.keep (k2.keep (by omega))).mono (by omega)⟩

end Go.Proofs.YtcbncdigejjcpaaGreatDoor.Ex
