/- One reply: read, Decode. -/
import Derived.Test.YtngkbacnajgmcaaDoorReadA
import Derived.Test.YtngkbacnajgmcaaDoorReadB
import Derived.Test.YtngkbacnajgmcaaDoorReadC
import Derived.Test.YtngkbacnajgmcaaDoorReadD
import Derived.Test.YtngkbacnajgmcaaDoorReadE
namespace Go.Proofs.YtngkbacnajgmcaaDoor
open Go.RowKit

set_option maxHeartbeats 2000000 in
set_option maxRecDepth 100000 in
theorem read_of {k : Nat} (ih : ∀ j, k = j + 1 → ReadAt j) : ReadAt k := by
  intro z s w hz hk hE hs
  subst hz
  have HC := hid fun (o : Obj) => cutLine_any s k (w.alloc o) hk hs
  cases hcut : cutLn s k with
  | bad y =>
    have HZ := hid fun (o : Obj) => heap_alloc_new w o
    have HR := hid (rd_cut hcut)
    rw [hcut] at HC
    simp only [cutVal] at HC
    have hy0 : (y != 0) = true := by rcases cutLn_bad hcut with rfl | rfl <;> rfl
    clear hcut ih hE
    go_enter Tryd.func20, Tryd.ntmps20
    go_wp2_with fail
    refine (HC.out _).mono ?_; rintro e w1 ⟨rfl, hb⟩
    have HB := hid ((below_alloc w _).trans (hb.out.mono (by simp)))
    have HRw := hid ((hb.out.block _ (by simp)).trans (HZ.out _))
    clear hb HC
    go_wp2_with (first | (refine wpList_load_row rfl 24 _ rfl w.heap.size rfl 24 _ (0, 0) _ HRw.out Tryd.underlying24 rfl (infoRep _ _ _ _) ?_) | (refine wpList_store_row rfl 24 _ _ rfl w.heap.size #[.int .i64 0, .int .i64 0, .string ⟨#[]⟩, .slice none 0 0] rfl rfl 24 _ HRw.out (infoRep _ _ _ _) rfl (oneR _ _ _ _ _ _) ?_))
    refine bodyPost_ret (v := .tuple #[zeroV, .string ⟨s.toArray⟩, .int .i64 y]) ?_ rfl ?_
    · exact ret_rep3 rfl rfl rfl rfl (setRow_heap w1 _ _ _ _ _ HRw.out)
    · refine ⟨_, _, _, _, _, _, _, _, rfl, ?_, below_setRow HB.out (Nat.le_refl _) _⟩
      rw [HR.out]
      rfl
  | ok line rest =>
    obtain ⟨c, text, rfl, hmay, hl1, hl2, hl3⟩ := cutLn_ok hcut
    have hR := rd_line hcut
    rw [hcut] at HC
    simp only [cutVal] at HC
    have H : Lined w k s text rest ⟨(c :: text).toArray⟩ (c.toNat : Int) := ⟨line_rest c text, line_head c text, HC, by simp at hl3; omega, by omega, hk, hE⟩
    rw [hR]
    rcases may_cases hmay with rfl | rfl | rfl | rfl | ⟨rfl, hk0⟩
    · exact read_43 H
    · exact read_45 H
    · exact read_58 H
    · exact read_36 H
    · obtain ⟨j, rfl⟩ : ∃ j, k = j + 1 := ⟨k - 1, by omega⟩
      exact read_42 (ih j rfl) H
theorem read_at : ∀ k, ReadAt k
  | 0 => read_of fun j h => absurd h (by omega)
  | k + 1 => read_of fun j h => by
    obtain rfl : k = j := by omega
    exact read_at k
/-- what Decode tells, by what stands there -/
def DOut (B : Nat) (W : World) (s : List UInt8) (v : Value) (n x : Int) : Res → Prop
  | .got r rest => x = 0 ∧ n = (s.length : Int) - (rest.length : Int) ∧ Rp (fun b => B ≤ b) W 5 v r
  | .bad y => x = y ∧ n = 0
set_option maxHeartbeats 2000000 in
set_option maxRecDepth 100000 in
/-- Decode -/
theorem decode_any (s : List UInt8) (w : World) (hE : Env w) (hs : s.length ≤ 281474976710656) :
    Calls Tryd.prog 13 #[.string ⟨s.toArray⟩] w fun e w' => ∃ (a0 a1 : Int) (a2 : ByteArray) (p : Option Addr) (m c : Nat) (n x : Int), e = .returned (.tuple #[.agg #[.int .i64 a0, .int .i64 a1, .string a2, .slice p m c], .int .i64 n, .int .i64 x]) ∧
      Hid (DOut w.heap.size w' s (.agg #[.int .i64 a0, .int .i64 a1, .string a2, .slice p m c]) n x (rd 4 s) ∧ Below w.heap.size w w') := by
  have HC := hid fun (o : Obj) => read_at 4 4 s (w.alloc o) rfl (by decide) (hE.below (below_alloc w o) hE.room) hs
  have HZ := hid fun (o : Obj) => heap_alloc_new w o
  clear hE
  go_enter Tryd.func13, Tryd.ntmps13
  go_wp2_with fail
  refine (HC.out _).mono ?_; rintro e w1 ⟨a0, a1, a2, p, m, c, rest, x, rfl, hh⟩
  have HH := hid hh.out
  have HB := hid ((below_alloc w _).trans (hh.out.2.mono (by simp)))
  have HRw := hid fun (o : Obj) => ((below_alloc w1 o).block w.heap.size (by have := hh.out.2.size; simp at this; omega)).trans ((hh.out.2.block _ (by simp)).trans (HZ.out _))
  clear hh HC
  cases hrd : rd 4 s with
  | bad y =>
    have hx : x = y := by have := HH.out.1; rw [hrd] at this; exact this
    subst hx
    have hx0 : (x != 0) = true := by rcases rd_bad hrd with rfl | rfl <;> rfl
    have HRD := hid hrd
    clear hrd HH
    go_wp2_with (refine wpList_store_row rfl 24 _ _ rfl w.heap.size #[.int .i64 0, .int .i64 0, .string ⟨#[]⟩, .slice none 0 0] rfl rfl 24 _ (HRw.out _) (infoRep _ _ _ _) rfl (oneR _ _ _ _ _ _) ?_)
    refine bodyPost_ret (v := .tuple #[zeroV, .int .i64 0, .int .i64 x]) ?_ rfl ?_
    · exact ret_rep3 rfl rfl rfl rfl (setRow_heap _ w.heap.size _ #[.int .i64 0, .int .i64 0, .string ⟨#[]⟩, .slice none 0 0] _ _ (HRw.out _))
    · exact ⟨_, _, _, _, _, _, _, _, rfl, by rw [HRD.out]; exact ⟨rfl, rfl⟩, below_setRow (HB.out.alloc HB.out.size _) (Nat.le_refl _) _⟩
  | got r rest' =>
    obtain ⟨rfl, rfl, hrp⟩ : x = 0 ∧ rest = ⟨rest'.toArray⟩ ∧ Rp (fun b => (w.alloc (.cells #[.int .i64 0, .int .i64 0, .string ⟨#[]⟩, .slice none 0 0] 24)).heap.size ≤ b) w1 (4 + 1) (.agg #[.int .i64 a0, .int .i64 a1, .string a2, .slice p m c]) r := by
      have := HH.out.1; rw [hrd] at this; exact this
    have hrl := rd_rest hrd
    have HRp := hid hrp
    have HRD := hid hrd
    clear hrd HH hrp
    go_wp2_with (refine wpList_store_row rfl 24 _ _ rfl w.heap.size #[.int .i64 a0, .int .i64 a1, .string a2, .slice p m c] rfl rfl 24 _ (HRw.out _) (infoRep _ _ _ _) rfl (oneR _ _ _ _ _ _) ?_)
    refine bodyPost_ret (v := .tuple #[.agg #[.int .i64 a0, .int .i64 a1, .string a2, .slice p m c], .int .i64 ((s.length : Int) - (rest'.length : Int)), .int .i64 0]) ?_ rfl ?_
    · exact ret_rep3 rfl rfl rfl rfl (setRow_heap _ w.heap.size _ #[.int .i64 a0, .int .i64 a1, .string a2, .slice p m c] _ _ (HRw.out _))
    · refine ⟨_, _, _, _, _, _, _, _, rfl, ?_, below_setRow (HB.out.alloc HB.out.size _) (Nat.le_refl _) _⟩
      rw [HRD.out]
      refine ⟨rfl, rfl, ?_⟩
      refine HRp.out.turn (fun b hb hlt => ?_) (Nat.le_refl _)
      have hb' : w.heap.size + 1 ≤ b := by simpa using hb
      refine ⟨by omega, ?_⟩
      rw [setRow_other _ _ _ _ (by omega)]
      exact (below_alloc w1 _).block b hlt

end Go.Proofs.YtngkbacnajgmcaaDoor
