/- Arguments copied out of the stream: resp.texts. -/
import Derived.Test.YtjcegiponjpjiabDoorStream
import Derived.Deep.OwnRows
namespace Go.Proofs.YtjcegiponjpjiabDoor
open Go.RowKit

/-- parts of bytes, in a row of slices -/
def Parts (w : World) (p : Option Addr) (l : List (List UInt8)) : Prop := l ≠ [] → ∃ b o, p = some ⟨b, o, none⟩ ∧ ∀ i (h : i < l.length), ∃ q c, w.cell? ⟨b, o + i, none⟩ = some (.slice q l[i].length c) ∧ At w q l[i]
theorem At.since {w w' : World} {p : Option Addr} {s : List UInt8} {n : Nat} (h : At w p s) (hb : Below n w w') (hn : w.heap.size ≤ n) : At w' p s := fun hne => by
  obtain ⟨b, o, rfl, hc, cur, fr, ht⟩ := h hne
  exact ⟨b, o, rfl, fun i hi => by rw [hb.cell (Nat.lt_of_lt_of_le (block_lt_of_cell (hc i hi)) hn)]; exact hc i hi, cur, fr, (hb.block b (Nat.lt_of_lt_of_le (Array.getElem?_eq_some_iff.1 ht).1 hn)).trans ht⟩
theorem infoStr : (Tryd.prog.info? 9).map (fun i => (i.zero, i.size, i.bytes)) = some (some (.string ⟨#[]⟩), 1, 16) := by kernel_rfl
/-- the first k texts are there -/
def textAt (l : List (List UInt8)) (k j : Nat) : Value := if j < k then .string ⟨(l.getD j []).toArray⟩ else .string ⟨#[]⟩
set_option maxHeartbeats 1000000 in
set_option maxRecDepth 100000 in
theorem texts_any (p : Option Addr) (l : List (List UInt8)) (cap : Nat) (w : World) (hA : Parts w p l) (hne : l ≠ []) (hl : l.length ≤ 100000) :
    Calls Tryd.prog 20 #[.slice p l.length cap] w fun e w' => e = .returned (.slice (some ⟨w.heap.size, 0, none⟩) l.length l.length) ∧ Hid (w'.rowIs w.heap.size 9 l.length (textAt l l.length) ∧ Below w.heap.size w w') := by
  obtain ⟨b, o, rfl, hc⟩ := hA hne
  have hmk := run_make_row' (P := Tryd.prog) 22 9 (.string ⟨#[]⟩) 16 Tryd.underlying22 infoStr rfl .i64 .i64 l.length (by omega) (by omega)
  have HR0 : Hid ((w.alloc (.cells (madeCells #[.string ⟨#[]⟩] l.length) 9)).rowIs w.heap.size 9 l.length (textAt l 0)) := World.rowIs_made w (.string ⟨#[]⟩) l.length 9
  have HB0 := hid (below_alloc w (.cells (madeCells #[.string ⟨#[]⟩] l.length) 9))
  have HC := hid hc
  clear hc hA
  go_enter Tryd.func20, Tryd.ntmps20
  go_wp2
  go_loopw [4, 5, 11] (fun _ _ v11 W => ∃ k : Nat, k ≤ l.length ∧ v11 = .int .i64 k ∧ Hid (W.rowIs w.heap.size 9 l.length (textAt l k)) ∧ Hid (Below w.heap.size w W)) (fun _ _ v11 _ => l.length - (intOf v11).toNat)
  case atStart => exact ⟨0, Nat.zero_le _, rfl, HR0.out, HB0.out⟩
  case round =>
    obtain ⟨k, hk, rfl, HR, HB⟩ := hrel
    by_cases hlt : k < l.length
    · obtain ⟨q, c, hcell, hat⟩ := HC.out k hlt
      have ck : wr.cell? ⟨b, o + k, none⟩ = some (.slice q l[k].length c) := by
        rw [HB.out.cell (block_lt_of_cell hcell)]; exact hcell
      have hcv := conv_any c (hat.since HB.out (Nat.le_refl _))
      have cw : wr.cell? ⟨w.heap.size, k, none⟩ = some (textAt l k k) := HR.out.cell hlt
      have fw : wr.frozen? ⟨w.heap.size, k, none⟩ = false := HR.out.frozen k
      have HT : Hid (textAt l (k + 1) = fun j => if j = k then .string ⟨l[k].toArray⟩ else textAt l k j) := by
        funext j
        unfold textAt
        by_cases e : j = k
        · subst e; simp [hlt, List.getD]
        · rw [if_neg e]
          by_cases h1 : j < k
          · rw [if_pos (by omega), if_pos h1]
          · rw [if_neg (by omega), if_neg h1]
      generalize l[k] = s at ck hcv HT
      clear hcell hat
      go_wp2
      refine ⟨⟨k + 1, by omega, by go_num, ?_, HB.out.setCell (p := ⟨w.heap.size, k, none⟩) (Nat.le_refl _) _⟩, by simp [intOf]; omega⟩
      rw [HT.out]
      exact HR.out.set k _
    · obtain rfl : k = l.length := by omega
      go_wp2
      go_ret
      exact ⟨rfl, HR.out, HB.out⟩

end Go.Proofs.YtjcegiponjpjiabDoor
