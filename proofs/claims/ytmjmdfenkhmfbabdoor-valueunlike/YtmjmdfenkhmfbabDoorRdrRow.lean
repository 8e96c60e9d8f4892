/- The program's reader: rows of texts and of pairs. -/
import Derived.Test.YtmjmdfenkhmfbabDoorRdr
namespace Go.Proofs.YtmjmdfenkhmfbabDoor
open Go.RowKit

theorem owns_keep {W W' : World} {B b : Nat} {e : TypeId} {size : Nat} {v : Value} {n : Nat} {xs : List Value} (h : W.ownsRow B e size v n xs) (hk : Keep (· ≠ b) W W') (hb : b < B) : W'.ownsRow B e size v n xs := by
  refine ⟨h.1, ?_⟩
  rcases h.2 with h | ⟨g, cap, cur, h1, h2, h3, h4⟩
  · exact .inl h
  · exact .inr ⟨g, cap, cur, h1, h2, (hk.block g (Array.getElem?_eq_some_iff.1 h3).1 (show g ≠ b by omega)).trans h3, h4⟩
/-- what is new, behind a reader's turn -/
theorem RT.new {b B : Nat} {x y z : World} {r : Nm} (h : RT b x y r) (k : Below B y z) (hb : b < x.heap.size) (hB : x.heap.size ≤ B) : RT b x z r :=
  ⟨⟨k.os.trans h.keep.os, k.tape.trans h.keep.tape, k.output.trans h.keep.output, Nat.le_trans h.keep.size k.size, fun i hi hk => (k.block i (by omega)).trans (h.keep.block i hi hk)⟩, (k.block b (by omega)).trans h.box⟩
set_option maxHeartbeats 1000000 in
set_option maxRecDepth 100000 in
/-- so many texts -/
theorem rowT_any (b n : Nat) (r : Nm) (w : World) (h : Box w b r) (hr : r.length ≤ 140737488351232) (hn : n ≤ 256) :
    Calls Tryd.prog 23 #[.int .i64 n, .func (.func 19) #[.pointer (some ⟨b, 0, none⟩)] #[]] w fun e w' => ∃ q d, e = .returned (.slice q n d) ∧ Hid (RT b w w' (rows tkT n r).2 ∧ Own w.heap.size w' (.slice q n d) (rows tkT n r).1) := by
  have hb : b < w.heap.size := (Array.getElem?_eq_some_iff.1 h).1
  have H := hid (fun k W hW => rdtext_any b (rows tkT k r).2 W hW (Nat.le_trans (rows_rest tkT tkT_rest k r) hr))
  have H0 := hid h
  have HB := hid hb
  have hnz : (n : Int) ≤ 256 := by omega
  have HL := hid (rows_len tkT)
  clear h hr hb
  go_enter Tryd.func23, Tryd.ntmps23
  go_wp2_with fail
  go_loopw [5, 7] (fun v5 v7 W => ∃ (k : Nat) (q : Option Addr) (d : Nat), v7 = .int .i64 k ∧ v5 = .slice q k d ∧ k ≤ n ∧ Hid (RT b w W (rows tkT k r).2) ∧ Hid (Own w.heap.size W (.slice q k d) (rows tkT k r).1)) (fun _ v7 _ => n - (intOf v7).toNat)
  case atStart => exact ⟨0, none, 0, rfl, rfl, Nat.zero_le _, ⟨Keep.refl _ _, H0.out⟩, World.ownsRow_nil _ _ _ _⟩
  case round =>
    obtain ⟨k, q, d, rfl, rfl, hk, HR, HO⟩ := hrel
    by_cases hlt : k < n
    · have hkz : (k : Int) < (n : Int) := by omega
      have HK := hid (H.out k)
      have HS : Hid (rows tkT (k + 1) r = ((rows tkT k r).1 ++ [(tkT (rows tkT k r).2).1], (tkT (rows tkT k r).2).2)) := rfl
      generalize (tkT (rows tkT k r).2).1 = t at *
      generalize (tkT (rows tkT k r).2).2 = r2 at *
      go_wp2_with fail
      refine (HK.out _ HR.out.box).mono ?_; rintro e w1 ⟨rfl, hh⟩
      have ho1 := owns_keep HO.out hh.out.keep HB.out
      have HR1 := hid (HR.out.trans hh.out)
      clear hh
      have hl := HL.out k r
      obtain ⟨v2, W2, hrun2, ho2, hb2⟩ := Own.push (l := (rows tkT k r).1) ho1 HR1.out.keep.size t (by omega)
      obtain ⟨q2, d2, rfl, -⟩ := ho2.shape
      have hl2 : ((rows tkT k r).1 ++ [t]).length = k + 1 := by rw [List.length_append, hl]; rfl
      rw [hl2] at hrun2 ho2
      have HR2 := hid hrun2
      have HO2 := hid ho2
      have HW2 := hid (HR1.out.new hb2 HB.out (Nat.le_refl _))
      clear hrun2 ho2 hb2 hl2 hl ho1
      go_wp2_with (refine wpList_append_runs rfl _ _ 23 23 rfl _ _ _ _ rfl rfl HR2.out (Hid.out ?_))
      refine hid ?_
      go_wp2_with fail
      exact ⟨⟨k + 1, q2, d2, by go_num, rfl, by omega, by rw [HS.out]; exact HW2.out, by rw [HS.out]; exact HO2.out⟩, by simp [intOf]; omega⟩
    · obtain rfl : k = n := by omega
      go_wp2_with fail
      go_ret
      exact ⟨q, d, rfl, HR.out, HO.out⟩
set_option maxHeartbeats 1000000 in
set_option maxRecDepth 100000 in
/-- so many pairs -/
theorem rowP_any (b n : Nat) (r : Nm) (w : World) (h : Box w b r) (hr : r.length ≤ 140737488351232) (hn : n ≤ 256) :
    Calls Tryd.prog 20 #[.int .i64 n, .func (.func 22) #[.pointer (some ⟨b, 0, none⟩)] #[]] w fun e w' => ∃ q d, e = .returned (.slice q n d) ∧ Hid (RT b w w' (rows tkP n r).2 ∧ OwnP w.heap.size w' (.slice q n d) (rows tkP n r).1) := by
  have hb : b < w.heap.size := (Array.getElem?_eq_some_iff.1 h).1
  have H := hid (fun k W hW => rdpair_any b (rows tkP k r).2 W hW (Nat.le_trans (rows_rest tkP tkP_rest k r) hr))
  have H0 := hid h
  have HB := hid hb
  have hnz : (n : Int) ≤ 256 := by omega
  have HL := hid (rows_len tkP)
  clear h hr hb
  go_enter Tryd.func20, Tryd.ntmps20
  go_wp2_with fail
  go_loopw [5, 7] (fun v5 v7 W => ∃ (k : Nat) (q : Option Addr) (d : Nat), v7 = .int .i64 k ∧ v5 = .slice q k d ∧ k ≤ n ∧ Hid (RT b w W (rows tkP k r).2) ∧ Hid (OwnP w.heap.size W (.slice q k d) (rows tkP k r).1)) (fun _ v7 _ => n - (intOf v7).toNat)
  case atStart => exact ⟨0, none, 0, rfl, rfl, Nat.zero_le _, ⟨Keep.refl _ _, H0.out⟩, World.ownsRow_nil _ _ _ _⟩
  case round =>
    obtain ⟨k, q, d, rfl, rfl, hk, HR, HO⟩ := hrel
    by_cases hlt : k < n
    · have hkz : (k : Int) < (n : Int) := by omega
      have HK := hid (H.out k)
      have HS : Hid (rows tkP (k + 1) r = ((rows tkP k r).1 ++ [(tkP (rows tkP k r).2).1], (tkP (rows tkP k r).2).2)) := rfl
      generalize (tkP (rows tkP k r).2).1 = t at *
      generalize (tkP (rows tkP k r).2).2 = r2 at *
      obtain ⟨t1, t2⟩ := t
      go_wp2_with fail
      refine (HK.out _ HR.out.box).mono ?_; rintro e w1 ⟨rfl, hh⟩
      have ho1 := owns_keep HO.out hh.out.keep HB.out
      have HR1 := hid (HR.out.trans hh.out)
      clear hh
      have hl := HL.out k r
      obtain ⟨v2, W2, hrun2, ho2, hb2⟩ := OwnP.push (l := (rows tkP k r).1) ho1 HR1.out.keep.size t1 t2 (by omega)
      obtain ⟨q2, d2, rfl⟩ := ho2.shape
      have hl2 : ((rows tkP k r).1 ++ [(t1, t2)]).length = k + 1 := by rw [List.length_append, hl]; rfl
      rw [hl2] at hrun2 ho2
      have HR2 := hid hrun2
      have HO2 := hid ho2
      have HW2 := hid (HR1.out.new hb2 HB.out (Nat.le_refl _))
      clear hrun2 ho2 hb2 hl2 hl ho1
      go_wp2_with (refine wpList_append_runs rfl _ _ 22 22 rfl _ _ _ _ rfl rfl HR2.out (Hid.out ?_))
      refine hid ?_
      go_wp2_with fail
      exact ⟨⟨k + 1, q2, d2, by go_num, rfl, by omega, by rw [HS.out]; exact HW2.out, by rw [HS.out]; exact HO2.out⟩, by simp [intOf]; omega⟩
    · obtain rfl : k = n := by omega
      go_wp2_with fail
      go_ret
      exact ⟨q, d, rfl, HR.out, HO.out⟩

end Go.Proofs.YtmjmdfenkhmfbabDoor
