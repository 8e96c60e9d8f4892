/- The law of what comes out. -/
import Derived.Test.YtmlnjcmkengkhaaLawAll
namespace Go.Proofs.Ytmlnjcmkengkhaa
open Go.RowKit

/-- where texts lie -/
def Strs (w : World) (p : Option Addr) (l : Row) : Prop := l ≠ [] → ∃ b o, p = some ⟨b, o, none⟩ ∧ ∀ i (h : i < l.length), w.cell? ⟨b, o + i, none⟩ = some (.string ⟨l[i].toArray⟩)
/-- the row behind so many pushes -/
def pushed (l : Row) (f : Bool) (i : Nat) : Row := if f then (l.take i).reverse else l.take i
theorem pushed_len (l : Row) (f : Bool) (i : Nat) (h : i ≤ l.length) : (pushed l f i).length = i := by cases f <;> simp [pushed] <;> omega
theorem pushed_push (l : Row) (f : Bool) (i : Nat) (h : i < l.length) (hn : l.length ≤ 256) : pushL (pushed l f i) f l[i] = pushed l f (i + 1) := by
  unfold pushL
  rw [pushed_len l f i (by omega), if_neg (by omega)]
  unfold pushed
  rw [List.take_succ_eq_append_getElem h]
  cases f
  · rfl
  · simp only [if_true]
    rw [List.reverse_append]
    rfl
theorem pushed_yes (l : Row) (f : Bool) (i : Nat) (h : i < l.length) (hn : l.length ≤ 256) : pushB (pushed l f i) = true := decide_eq_true (by rw [pushed_len l f i (by omega)]; omega)
/-- the row behind all pushes and so many pops -/
def popped (l : Row) (f o : Bool) (j : Nat) : Row := if o then (pushed l f l.length).drop j else (pushed l f l.length).take (l.length - j)
theorem popped_zero (l : Row) (f o : Bool) : popped l f o 0 = pushed l f l.length := by
  have := pushed_len l f l.length (Nat.le_refl _)
  unfold popped
  cases o
  · simp only [Bool.false_eq_true, if_false, Nat.sub_zero]
    rw [List.take_of_length_le (by omega)]
  · simp
theorem popped_end (l : Row) (f o : Bool) : popped l f o l.length = [] := by
  have := pushed_len l f l.length (Nat.le_refl _)
  unfold popped
  cases o
  · simp
  · simp only [if_true]
    rw [List.drop_eq_nil_of_le (by omega)]
theorem popped_len (l : Row) (f o : Bool) (j : Nat) : (popped l f o j).length = l.length - j := by
  have := pushed_len l f l.length (Nat.le_refl _)
  unfold popped
  cases o <;> simp <;> omega
theorem popped_pop (l : Row) (f o : Bool) (j : Nat) (h : j < l.length) : popL (popped l f o j) o = popped l f o (j + 1) := by
  have hp := pushed_len l f l.length (Nat.le_refl _)
  unfold popped popL
  cases o
  · simp only [Bool.false_eq_true, if_false]
    rw [List.dropLast_eq_take, List.length_take, List.take_take]
    congr 1
    omega
  · simp only [if_true]
    rw [List.tail_drop]
theorem popped_yes (l : Row) (f o : Bool) (j : Nat) (h : j < l.length) : popB (popped l f o j) = true := by
  have := popped_len l f o j
  unfold popB
  cases hp : popped l f o j with
  | nil => rw [hp] at this; simp at this; omega
  | cons _ _ => rfl
theorem popped_same (l : Row) (f : Bool) (j : Nat) (h : j < l.length) : popS (popped l f f j) f = l[l.length - 1 - j] := by
  have hp := pushed_len l f l.length (Nat.le_refl _)
  unfold popS popped
  cases f
  · simp only [Bool.false_eq_true, if_false]
    rw [List.getLastD_eq_getLast?, List.getLast?_eq_getElem?, List.length_take, hp, List.getElem?_take]
    rw [if_pos (by omega)]
    simp only [pushed, Bool.false_eq_true, if_false, List.take_length]
    rw [show min (l.length - j) l.length - 1 = l.length - 1 - j by omega, List.getElem?_eq_getElem (by omega)]
    rfl
  · simp only [if_true]
    rw [List.headD_eq_head?_getD, List.head?_drop]
    simp only [pushed, if_true, List.take_length]
    rw [List.getElem?_reverse (by omega), List.getElem?_eq_getElem (by omega)]
    rfl
theorem popped_other (l : Row) (f o : Bool) (hfo : f ≠ o) (j : Nat) (h : j < l.length) : popS (popped l f o j) o = l[j] := by
  have hp := pushed_len l f l.length (Nat.le_refl _)
  unfold popS popped
  cases o
  · obtain rfl : f = true := by cases f <;> simp_all
    simp only [Bool.false_eq_true, if_false]
    rw [List.getLastD_eq_getLast?, List.getLast?_eq_getElem?, List.length_take, hp, List.getElem?_take]
    rw [if_pos (by omega)]
    simp only [pushed, if_true, List.take_length]
    rw [List.getElem?_reverse (by omega), List.getElem?_eq_getElem (by omega)]
    simp only [Option.getD_some]
    congr 1
    omega
  · obtain rfl : f = false := by cases f <;> simp_all
    simp only [if_true]
    rw [List.headD_eq_head?_getD, List.head?_drop]
    simp only [pushed, Bool.false_eq_true, if_false, List.take_length]
    rw [List.getElem?_eq_getElem (by omega)]
    rfl
set_option maxHeartbeats 2000000 in
set_option maxRecDepth 100000 in
theorem turned_any {Dq : World → Nat → Row → Prop} (M : Meth Dq) (p : Option Addr) (l : Row) (cp : Nat) (f o : Bool) (w : World) (hS : Strs w p l) (hn : l.length ≤ 9223372036854775807) :
    Calls Try.prog 5 #[.slice p l.length cp, .bool f, .bool o] w fun e w' => e = .returned (.bool true) ∧ Below w.heap.size w w' := by
  have HM := hid M
  have HN := hid (M.new w)
  have HS := hid hS
  clear M hS
  by_cases hbig : 256 < l.length
  · have hz : (256 : Int) < (l.length : Int) := by omega
    go_enter Try.func5, Try.ntmps5
    go_wp2_with fail
    refine HN.out.mono ?_; rintro e w1 ⟨b, rfl, hh⟩
    have H1 := hid hh.out
    clear hh
    go_wp2_with fail
    refine (alive_any HM.out _).mono ?_; rintro e w2 ⟨rfl, hb2⟩
    have HB := hid (H1.out.2.2.trans (hb2.out.mono H1.out.2.2.size))
    clear hb2
    go_wp2_with fail
    go_ret
    exact ⟨rfl, HB.out⟩
  · have hz : ¬ (256 : Int) < (l.length : Int) := by omega
    go_enter Try.func5, Try.ntmps5
    go_wp2_with fail
    refine HN.out.mono ?_; rintro e w1 ⟨b, rfl, hh⟩
    have H1 := hid hh.out
    clear hh
    go_wp2_with fail
    go_loopw [9, 29] (fun _ v29 W => ∃ i : Nat, v29 = .int .i64 i ∧ i ≤ l.length ∧ Hid (Dq W b (pushed l f i)) ∧ Hid (Below w.heap.size w W)) (fun _ v29 _ => l.length - (intOf v29).toNat)
    case atStart => exact ⟨0, rfl, Nat.zero_le _, by cases f <;> exact H1.out.2.1, H1.out.2.2⟩
    case round =>
      obtain ⟨i, rfl, hi, HDi, HBi⟩ := hrel
      by_cases hlt : i < l.length
      · have hlz : (i : Int) < (l.length : Int) := by omega
        obtain ⟨g, of, rfl, hc⟩ := HS.out (fun e => by rw [e] at hlt; simp at hlt)
        have hci : wr.cell? ⟨g, of + i, none⟩ = some (txt l[i]) := by rw [HBi.out.cell (block_lt_of_cell (hc i hlt))]; exact hc i hlt
        have HP := hid (HM.out.push b (pushed l f i) f l[i] _ HDi.out)
        rw [pushed_push l f i hlt (by omega), pushed_yes l f i hlt (by omega)] at HP
        generalize l[i] = t at *
        clear hc
        go_wp2_with fail
        refine HP.out.mono ?_; rintro e w2 ⟨rfl, hh⟩
        have H2 := hid hh.out
        have K2 := hid (Keep.end HBi.out hh.out.2 H1.out.1 HBi.out.size)
        clear hh
        go_wp2_with fail
        exact ⟨⟨i + 1, by go_num, by omega, H2.out.1, K2.out⟩, by simp [intOf]; omega⟩
      · obtain rfl : i = l.length := by omega
        have HD0 : Hid (Dq wr b (popped l f o 0)) := by rw [popped_zero]; exact HDi.out
        clear HDi
        go_wp2_with fail
        go_loopw [10, 11, 12, 13, 41] (fun _ _ _ _ v41 W => ∃ j : Nat, v41 = .int .i64 j ∧ j ≤ l.length ∧ Hid (Dq W b (popped l f o j)) ∧ Hid (Below w.heap.size w W)) (fun _ _ _ _ v41 _ => l.length - (intOf v41).toNat)
        case atStart => exact ⟨0, rfl, Nat.zero_le _, HD0.out, HBi.out⟩
        case round =>
          obtain ⟨j, rfl, hj, HDj, HBj⟩ := hrel
          by_cases hlt2 : j < l.length
          · have hlz : (j : Int) < (l.length : Int) := by omega
            obtain ⟨g, of, rfl, hc⟩ := HS.out (fun e => by rw [e] at hlt2; simp at hlt2)
            have hcj : wr.cell? ⟨g, of + j, none⟩ = some (txt l[j]) := by rw [HBj.out.cell (block_lt_of_cell (hc j hlt2))]; exact hc j hlt2
            have HP := hid (HM.out.pop b (popped l f o j) o _ HDj.out)
            rw [popped_pop l f o j hlt2, popped_yes l f o j hlt2] at HP
            by_cases hfo : f = o
            · subst hfo
              rw [popped_same l f j hlt2] at HP
              obtain ⟨k, hk⟩ : ∃ k, k = l.length - 1 - j := ⟨_, rfl⟩
              have hkl : k < l.length := by omega
              have hck : wr.cell? ⟨g, of + k, none⟩ = some (txt l[k]) := by rw [HBj.out.cell (block_lt_of_cell (hc k hkl))]; exact hc k hkl
              have hkz : (l.length : Int) - 1 - (j : Int) = (k : Int) := by omega
              have hkz2 : (k : Int) < (l.length : Int) := by omega
              simp only [← hk] at HP
              generalize l[k] = t at *
              generalize l[j] = t' at *
              clear hc hk
              go_wp2_with fail
              refine HP.out.mono ?_; rintro e w2 ⟨rfl, hh⟩
              have H2 := hid hh.out
              have K2 := hid (Keep.end HBj.out hh.out.2 H1.out.1 HBj.out.size)
              clear hh
              go_wp2_with fail
              exact ⟨⟨j + 1, by go_num, by omega, H2.out.1, K2.out⟩, by simp [intOf]; omega⟩
            · rw [popped_other l f o hfo j hlt2] at HP
              have hfe : (f == o) = false := beq_eq_false_iff_ne.2 hfo
              generalize l[j] = t at *
              clear hc hfo
              go_wp2_with fail
              refine HP.out.mono ?_; rintro e w2 ⟨rfl, hh⟩
              have H2 := hid hh.out
              have K2 := hid (Keep.end HBj.out hh.out.2 H1.out.1 HBj.out.size)
              clear hh
              go_wp2_with fail
              exact ⟨⟨j + 1, by go_num, by omega, H2.out.1, K2.out⟩, by simp [intOf]; omega⟩
          · obtain rfl : j = l.length := by omega
            rw [popped_end] at HDj
            go_wp2_with fail
            refine (alive_any HM.out _).mono ?_; rintro e w2 ⟨rfl, hb2⟩
            have HD2 := hid (HM.out.below HDj.out hb2.out)
            have K2 := hid (HBj.out.trans (hb2.out.mono HBj.out.size))
            clear hb2
            go_wp2_with fail
            refine (HM.out.length b [] _ HD2.out).mono ?_; rintro e w3 ⟨rfl, hh⟩
            have K3 := hid (Keep.end K2.out hh.out.2 H1.out.1 K2.out.size)
            clear hh
            go_wp2_with fail
            go_ret
            exact ⟨rfl, K3.out⟩

end Go.Proofs.Ytmlnjcmkengkhaa
