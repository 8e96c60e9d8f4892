/- What stands on pick and along besides: With, Without, Inside; Right. -/
import Derived.Test.YtpbokncojemihaaAlongI
import Derived.Test.YtpbokncojemihaaPick
import Derived.Test.YtpbokncojemihaaMake
import Derived.Test.YtpbokncojemihaaMeth
namespace Go.Proofs.Ytpbokncojemihaa
open Go.RowKit

theorem Lw.less {n n' : Nat} {w : World} {q : Option Addr} {l : Row} (h : Lw n w q l) (hn : n' ≤ n) : Lw n' w q l := fun hne => by
  obtain ⟨g, o, h1, h2, h3⟩ := h hne
  exact ⟨g, o, h1, by omega, h3⟩
set_option maxHeartbeats 1000000 in
/-- With -/
theorem with_own (p : Option Addr) (c : Nat) (l : Row) (s : Nm) (w : World) (h : Rd w p c l) (hl : l.length ≤ 1100000) (L : Row) (hL : pickd (fun x y => x || y) (side (l.length + 1) l [s]) = L) : TellsOwn 18 #[.slice p l.length c, txt s] w L := by
  have hal := below_alloc w (.cells #[txt s] 9)
  have HP := hid (union_own p c l (some ⟨w.heap.size, 0, none⟩) 1 [s] (w.alloc (.cells #[txt s] 9)) (h.below hal) (rd_lit w [s]) hl (by simp) L hL)
  have HA := hid hal
  have HS : Hid (w.heap.size ≤ (w.alloc (.cells #[txt s] 9)).heap.size) := hal.size
  clear hL h hl hal
  generalize l.length = n at *
  go_enter Try.func18, Try.ntmps18
  go_wp2_with fail
  refine HP.out.mono ?_; rintro e w1 ⟨q, d, rfl, hh⟩
  go_wp2_with fail
  go_ret
  exact ⟨q, d, rfl, hh.out.1, hh.out.2.1.less HS.out, HA.out.trans (hh.out.2.2.mono HS.out)⟩
theorem with_any (p : Option Addr) (c : Nat) (l : Row) (s : Nm) (w : World) (h : Rd w p c l) (hl : l.length ≤ 1100000) (hr : Ris l) : TellsOwn 18 #[.slice p l.length c, txt s] w (ins s l) :=
  with_own p c l s w h hl _ (by rw [← union_one]; exact (side_spec _ l [s] (Nat.le_refl _) hr (List.pairwise_singleton _ _)).union hr)
set_option maxHeartbeats 1000000 in
/-- Without -/
theorem without_own (p : Option Addr) (c : Nat) (l : Row) (s : Nm) (w : World) (h : Rd w p c l) (hl : l.length ≤ 1100000) (L : Row) (hL : pickd (fun x y => x && !y) (side (l.length + 1) l [s]) = L) : TellsOwn 20 #[.slice p l.length c, txt s] w L := by
  have hal := below_alloc w (.cells #[txt s] 9)
  have HP := hid (less_own p c l (some ⟨w.heap.size, 0, none⟩) 1 [s] (w.alloc (.cells #[txt s] 9)) (h.below hal) (rd_lit w [s]) hl (by simp) L hL)
  have HA := hid hal
  have HS : Hid (w.heap.size ≤ (w.alloc (.cells #[txt s] 9)).heap.size) := hal.size
  clear hL h hl hal
  generalize l.length = n at *
  go_enter Try.func20, Try.ntmps20
  go_wp2_with fail
  refine HP.out.mono ?_; rintro e w1 ⟨q, d, rfl, hh⟩
  go_wp2_with fail
  go_ret
  exact ⟨q, d, rfl, hh.out.1, hh.out.2.1.less HS.out, HA.out.trans (hh.out.2.2.mono HS.out)⟩
theorem without_any (p : Option Addr) (c : Nat) (l : Row) (s : Nm) (w : World) (h : Rd w p c l) (hl : l.length ≤ 1100000) (hr : Ris l) : TellsOwn 20 #[.slice p l.length c, txt s] w (del s l) :=
  without_own p c l s w h hl _ (by rw [← less_one]; exact (side_spec _ l [s] (Nat.le_refl _) hr (List.pairwise_singleton _ _)).less hr)
/-- what Inside was told so far -/
structure II (w0 : World) (B : Nat) (T : List Told) (w : World) : Prop where
  below : Below B w0 w
  box : w.heap[B]? = some (.cells #[.bool (inAll T)] 4 (0, 0))
theorem II.like {w0 : World} {B : Nat} {T : List Told} {w w' : World} (h : II w0 B T w) (h1 : w'.heap = w.heap) (h2 : w'.os = w.os) (h3 : w'.tape = w.tape) (h4 : w'.output = w.output) : II w0 B T w' := by
  obtain ⟨k1, k2⟩ := h
  exact ⟨⟨h2.trans k1.os, h3.trans k1.tape, h4.trans k1.output, by rw [h1]; exact k1.size, fun k hk => by rw [h1]; exact k1.block k hk⟩, by rw [h1]; exact k2⟩
theorem tell_in (w0 w : World) (B : Nat) (T : List Told) (s : Nm) (X Y : Bool) (h : II w0 B T w) :
    Calls Try.prog 37 #[txt s, .bool X, .bool Y, .pointer (some ⟨B, 0, none⟩)] w fun e w' => e = .returned (.tuple #[]) ∧ Hid (II w0 B (T ++ [(s, X, Y)]) w') := by
  have c1 := cell_of_one h.box
  have f1 := free_of_one h.box
  have HK : Hid ((X && !Y) = false → II w0 B (T ++ [(s, X, Y)]) w) := fun e => ⟨h.below, by rw [inAll_snoc, e]; simpa using h.box⟩
  have HN : Hid ((X && !Y) = true → II w0 B (T ++ [(s, X, Y)]) (w.setCell ⟨B, 0, none⟩ (.bool false))) := fun e => ⟨h.below.setCell (Nat.le_refl _) _, by rw [inAll_snoc, e]; simpa using one_setCell h.box⟩
  clear h
  generalize inAll T = V at *
  cases X <;> cases Y
  all_goals
    go_enter Try.func37, Try.ntmps37
    go_wp2
    go_end0
    first
      | exact ⟨rfl, HK.out rfl⟩
      | exact ⟨rfl, HN.out rfl⟩
theorem ii_start (w : World) : II w w.heap.size [] (w.alloc (.cells #[.bool true] 4)) := ⟨below_alloc _ _, heap_alloc_new _ _⟩
set_option maxHeartbeats 1000000 in
set_option maxRecDepth 100000 in
/-- Inside -/
theorem inside_run (p : Option Addr) (c : Nat) (a : Row) (p' : Option Addr) (c' : Nat) (b : Row) (w : World) (ha : Rd w p c a) (hb : Rd w p' c' b) (hla : a.length ≤ 1100000) (hlb : b.length ≤ 1100000) :
    Calls Try.prog 27 #[.slice p a.length c, .slice p' b.length c'] w fun e w' => e = .returned (.bool (inAll (side (a.length + b.length) a b))) ∧ Hid (Below w.heap.size w w') := by
  have HV : Hid (InvI w.heap.size w (II w w.heap.size) w.heap.size) := ⟨fun T w h => h.below, fun T w w' h h1 h2 h3 h4 => h.like h1 h2 h3 h4, fun T s X Y w1 _ h => tell_in w w1 _ T s X Y h⟩
  have HAl := hid (along_I p c a p' c' b w.heap.size w _ (II w w.heap.size) _ ha hb (Nat.le_refl _) HV.out (ii_start w) hla hlb)
  generalize side (a.length + b.length) a b = R at *
  generalize a.length = n at *
  generalize b.length = m at *
  clear HV ha hb hla hlb
  go_enter Try.func27, Try.ntmps27
  go_wp2_with fail
  refine HAl.out.mono ?_; rintro e w1 ⟨rfl, hI⟩
  have c1 := cell_of_one hI.out.box
  have HB := hid hI.out.below
  clear HAl hI
  go_wp2_with fail
  go_ret
  exact ⟨rfl, HB.out⟩
theorem inside_any (p : Option Addr) (c : Nat) (a : Row) (p' : Option Addr) (c' : Nat) (b : Row) (w : World) (ha : Rd w p c a) (hb : Rd w p' c' b) (hla : a.length ≤ 1100000) (hlb : b.length ≤ 1100000) (hra : Ris a) (hrb : Ris b) :
    Calls Try.prog 27 #[.slice p a.length c, .slice p' b.length c'] w fun e w' => ∃ V : Bool, e = .returned (.bool V) ∧ Hid ((V = true ↔ ∀ x ∈ a, x ∈ b) ∧ Below w.heap.size w w') :=
  (inside_run p c a p' c' b w ha hb hla hlb).mono (by rintro e w' ⟨rfl, hh⟩; exact ⟨_, rfl, (side_spec _ a b (Nat.le_refl _) hra hrb).inside, hh.out⟩)
set_option maxHeartbeats 2000000 in
set_option maxRecDepth 100000 in
/-- Right -/
theorem pright_any (p : Option Addr) (c : Nat) (l : Row) (w : World) (h : Rd w p c l) (hl : l.length ≤ 1100000) :
    Calls Try.prog 12 #[.slice p l.length c] w fun e w' => ∃ V : Bool, e = .returned (.bool V) ∧ Hid ((V = true ↔ Ris l) ∧ Below w.heap.size w w') := by
  have H := hid h.strs
  have hlz : (l.length : Int) ≤ 1100000 := by omega
  clear h
  go_enter Try.func12, Try.ntmps12
  go_wp2_with fail
  go_loopw [3] (fun v3 W => ∃ k : Nat, v3 = .int .i64 k ∧ 1 ≤ k ∧ k ≤ l.length + 1 ∧ Hid (Ris (l.take k)) ∧ Hid (Below w.heap.size w W)) (fun v3 _ => l.length - (intOf v3).toNat)
  case atStart => exact ⟨1, rfl, by decide, by omega, by
    cases l with
    | nil => exact Ris.nil
    | cons x r => exact List.pairwise_singleton _ _, Below.refl _ _⟩
  case round =>
    obtain ⟨k, rfl, hk1, hk, HK, HW⟩ := hrel
    by_cases hlt : k < l.length
    · obtain ⟨i, rfl⟩ : ∃ i, k = i + 1 := ⟨k - 1, by omega⟩
      have hkz : ((i + 1 : Nat) : Int) < (l.length : Int) := by omega
      obtain ⟨b, o, rfl, hc⟩ := H.out (fun e => by rw [e] at hlt; simp at hlt)
      have hbl : b < w.heap.size := block_lt_of_cell (hc (i + 1) hlt)
      have x0 := cell_turn (hc i (by omega)) (HW.out.block b hbl)
      have x1 := cell_turn (hc (i + 1) hlt) (HW.out.block b hbl)
      have hsub : ((i + 1 : Nat) : Int) - 1 = (i : Int) := by omega
      by_cases e : l[i] < l[i + 1]
      · have HK2 := hid (ris_take hlt HK.out e)
        have hbl2 : Op.bytesLess l[i] l[i + 1] = true := by rw [bytesLess_eq]; exact decide_eq_true e
        generalize l[i] = t at *
        generalize l[i + 1] = u at *
        clear hc e
        go_wp2_with fail
        go_quiet (fail)
        go_wp2_with fail
        exact ⟨⟨i + 1 + 1, by go_num, by omega, by omega, HK2.out, by first | exact HW.out | exact HW.out.drew | exact below_redrawn HW.out _⟩, by simp [intOf]; omega⟩
      · have HN : Hid (¬ Ris l) := fun h => e (ris_at h (Nat.lt_succ_self i) hlt)
        have hbl2 : Op.bytesLess l[i] l[i + 1] = false := by rw [bytesLess_eq]; exact decide_eq_false e
        generalize l[i] = t at *
        generalize l[i + 1] = u at *
        clear hc e
        go_wp2_with fail
        go_quiet (fail)
        go_wp2_with fail
        go_ret
        exact ⟨false, rfl, ⟨fun h => by simp at h, fun h => absurd h HN.out⟩, by first | exact HW.out | exact HW.out.drew | exact below_redrawn HW.out _⟩
    · have HF : Hid (Ris l) := by have := HK.out; rw [List.take_of_length_le (by omega)] at this; exact this
      go_wp2_with fail
      go_ret
      exact ⟨true, rfl, ⟨fun _ => HF.out, fun _ => rfl⟩, HW.out⟩
theorem methB : MethB where
  make := make_any
  has := has_any
  union := fun p c a p' c' b w h1 h2 h3 h4 h5 h6 => (union_any p c a p' c' b w h1 h2 h3 h4 h5 h6).tells
  meet := fun p c a p' c' b w h1 h2 h3 h4 h5 h6 => (meet_any p c a p' c' b w h1 h2 h3 h4 h5 h6).tells
  less := fun p c a p' c' b w h1 h2 h3 h4 h5 h6 => (less_any p c a p' c' b w h1 h2 h3 h4 h5 h6).tells
theorem meth : Meth where
  toMethB := methB
  right := pright_any
  with_ := with_any
  without := without_any
  inside := inside_any
theorem methAny : MethAny where
  has := fun p c l s w h hl => (has_run p c l s w h hl).mono (by rintro e w' ⟨V, rfl, hh⟩; exact ⟨_, rfl, hh.out.2⟩)
  with_ := fun p c l s w h hl => (with_own p c l s w h hl _ rfl).ends
  without := fun p c l s w h hl => (without_own p c l s w h hl _ rfl).ends
  union := fun p c a p' c' b w h1 h2 h3 h4 => (union_own p c a p' c' b w h1 h2 h3 h4 _ rfl).ends
  meet := fun p c a p' c' b w h1 h2 h3 h4 => (meet_own p c a p' c' b w h1 h2 h3 h4 _ rfl).ends
  less := fun p c a p' c' b w h1 h2 h3 h4 => (less_own p c a p' c' b w h1 h2 h3 h4 _ rfl).ends
  inside := fun p c a p' c' b w h1 h2 h3 h4 => (inside_run p c a p' c' b w h1 h2 h3 h4).mono (by rintro e w' ⟨rfl, hh⟩; exact ⟨_, rfl, hh.out⟩)

end Go.Proofs.Ytpbokncojemihaa
