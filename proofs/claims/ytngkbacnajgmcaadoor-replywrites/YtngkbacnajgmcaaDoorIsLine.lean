/- Texts of a line: isLine, with what the library's ContainsAny tells of the two bytes 13 and 10. -/
import Derived.Test.YtngkbacnajgmcaaDoorModel
import Derived.Test.YtngkbacnajgmcaaDoorSame
import Derived.Test.YtngkbacnajgmcaaDoorShelfS
import Derived.Laws.Runes
import Derived.Laws.RangeAny
import Derived.Lib.OthersKept
import Derived.Deep.LoopGhost
import Derived.Deep.QuietTactic
namespace Go.Proofs.YtngkbacnajgmcaaDoor
open Go.RowKit

/-- the two bytes of a line's end -/
abbrev crlf : ByteArray := ⟨#[13, 10]⟩
theorem iter_below (w : World) (s : ByteArray) (i : Nat) : Below w.heap.size w (w.iter s i) := below_alloc w _
theorem crlf_at0 (w : World) (ty : TypeId) : (Instr.next (.pointer (some ⟨w.heap.size, 0, none⟩)) true ty).run Tryd.prog (w.iter crlf 0) = .ok (.tuple #[.bool true, .int .i64 0, .int .i32 13]) (w.iter crlf 1) := run_next_ascii w crlf 0 ty (by decide) (by decide)
theorem crlf_at1 (w : World) (ty : TypeId) : (Instr.next (.pointer (some ⟨w.heap.size, 0, none⟩)) true ty).run Tryd.prog (w.iter crlf 1) = .ok (.tuple #[.bool true, .int .i64 1, .int .i32 10]) (w.iter crlf 2) := run_next_ascii w crlf 1 ty (by decide) (by decide)
theorem crlf_at2 (w : World) (ty : TypeId) : (Instr.next (.pointer (some ⟨w.heap.size, 0, none⟩)) true ty).run Tryd.prog (w.iter crlf 2) = .ok (.tuple #[.bool false]) (w.iter crlf 2) := run_next_end w crlf 2 ty (by decide)
theorem crlf_rest (W : World) : (Instr.slice 9 (.string crlf) (some (.int .i64 2)) none none).run Tryd.prog W = .ok (.string ⟨#[]⟩) W := by
  rw [run_slice_string_l (P := Tryd.prog) W 9 crlf Tryd.underlying9 .i64 2 (by decide) (by decide)]
  rfl
theorem index_void (z : Int) (w : World) : Calls Tryd.prog 42 #[.string ⟨#[]⟩, .int .u8 z] w fun e w' => e = .returned (.int .i64 (-1)) ∧ w' = w := by
  refine (Tryd.strings_IndexByte ⟨#[]⟩ z w).mono ?_
  rintro e w' ⟨rfl, rfl⟩
  exact ⟨rfl, rfl⟩
set_option maxHeartbeats 4000000 in
set_option maxRecDepth 100000 in
theorem indexRune_err (w : World) :
    Calls Tryd.prog 65 #[.string crlf, .int .i32 65533] w fun e w' => e = .returned (.int .i64 (-1)) ∧ Below w.heap.size w w' := by
  have n0 := crlf_at0 w
  have n1 := crlf_at1 w
  have n2 := crlf_at2 w
  go_enter Tryd.func65, Tryd.ntmps65
  go_wp2_with fail
  refine wp_loop_rounds 3 ?_
  rw [rounds_succ]
  go_wp2_with fail
  rw [rounds_succ]
  go_wp2_with fail
  rw [rounds_succ]
  go_wp2_with fail
  go_ret
  exact ⟨rfl, iter_below w _ _⟩
set_option maxHeartbeats 4000000 in
set_option maxRecDepth 100000 in
theorem indexRune_high (r : Int) (h0 : 128 ≤ r) (h1 : r ≤ 2147483647) (w : World) :
    Calls Tryd.prog 65 #[.string crlf, .int .i32 r] w fun e w' => e = .returned (.int .i64 (-1)) ∧ Below w.heap.size w w' := by
  by_cases he : r = 65533
  · subst he
    exact indexRune_err w
  have hez : (r == 65533) = false := beq_eq_false_iff_ne.2 he
  have HV := hid (Tryd.utf8_ValidRune r w)
  cases hv : Lib.validRune r
  · rw [hv] at HV
    go_enter Tryd.func65, Tryd.ntmps65
    go_wp2_with fail
    refine HV.out.mono ?_; rintro e w' ⟨rfl, rfl⟩
    go_wp2_with fail
    go_ret
    exact ⟨rfl, Below.refl _ _⟩
  · rw [hv] at HV
    have hu : Utf8.valid r = true := by
      have h2 := of_decide_eq_true hv
      simp only [Utf8.valid]
      rcases h2 with h | h <;> simp <;> omega
    obtain ⟨z2, z4, hl⟩ := encode_facts r hu h0
    have hcv := fun (W : World) => run_convert_int_string (P := Tryd.prog) W 21 9 .i32 r (by rw [Tryd.underlying21]; rfl) Tryd.underlying9
    generalize Utf8.encode r = E at *
    by_cases h3 : E.size = 2
    · obtain ⟨a, b, rfl⟩ : ∃ a b, E = ⟨#[a, b]⟩ := by
        obtain ⟨⟨l⟩⟩ := E
        match l, h3 with
        | [a, b], _ => exact ⟨a, b, rfl⟩
      have hb : 128 ≤ b.toNat := hl (by show 1 < 2; decide)
      clear z2 z4 hl h3 hv hu he
      have hne : (((crlf[1]'(by decide)).toNat : Int) != (((⟨#[a, b]⟩ : ByteArray)[1]'(by show 1 < 2; decide)).toNat : Int)) = true := by
        show ((10 : Int) != (b.toNat : Int)) = true
        simp; omega
      have hsl := fun (W : World) => crlf_rest W
      have hw2 : IntKind.i64.wrap 2 = 2 := by decide
      go_enter Tryd.func65, Tryd.ntmps65
      go_wp2_with fail
      refine HV.out.mono ?_; rintro e w' ⟨rfl, rfl⟩
      go_wp2_with fail
      go_step3
      go_wp2_with fail
      refine wp_loop_rounds 1 ?_
      rw [rounds_succ]
      go_wp2_with fail
      go_step3
      go_wp2_with fail
      go_region
      all_goals go_wp2_with fail
      all_goals go_quiet (exact (index_void _ _).mono (fun _ _ h => ⟨h.1, _, h.2⟩))
      all_goals go_wp2_with fail
      all_goals simp only [Exit.noGoto, Exit.inBlock, Exit.then]
      all_goals go_ret
      all_goals exact ⟨rfl, rfl, rfl, rfl, Nat.le_refl _, fun _ _ => rfl⟩
    · have h3z : ¬ ((E.size : Int) - 1 < 2) := by omega
      clear hl hv hu he
      go_enter Tryd.func65, Tryd.ntmps65
      go_wp2_with fail
      refine HV.out.mono ?_; rintro e w' ⟨rfl, rfl⟩
      go_wp2_with fail
      go_step3
      go_wp2_with fail
      refine wp_loop_rounds 1 ?_
      rw [rounds_succ]
      go_wp2_with fail
      simp only [Exit.noGoto, Exit.inBlock]
      go_ret
      exact ⟨rfl, Below.refl _ _⟩
theorem cont_of {s : ByteArray} {i k : Nat} (h : (decide (i + k < s.size) && (s.get! (i + k)).toNat / 64 == 2) = true) : i + k < s.size ∧ 128 ≤ (s.get! (i + k)).toNat := by
  simp only [Bool.and_eq_true, decide_eq_true_eq, beq_iff_eq] at h
  exact ⟨h.1, by omega⟩
/-- what a rune takes behind its first byte are no bytes of a line's end, and they are there -/
theorem decode_skips (s : ByteArray) (pos : Nat) : ∀ j, pos < j → j < pos + (Utf8.decode s pos).2 → j < s.size ∧ 128 ≤ (s.get! j).toNat := by
  intro j h1 h2
  unfold Utf8.decode at h2
  simp only at h2
  split at h2
  · simp at h2; omega
  · split at h2
    · rename_i hc
      rw [Bool.and_eq_true] at hc
      have c1 := cont_of hc.2
      split at h2
      · obtain rfl : j = pos + 1 := by simp at h2; omega
        exact c1
      · simp at h2; omega
    · split at h2
      · rename_i hc
        rw [Bool.and_eq_true, Bool.and_eq_true] at hc
        have c1 := cont_of hc.1.2
        have c2 := cont_of hc.2
        split at h2
        · rcases (show j = pos + 1 ∨ j = pos + 2 by simp at h2; omega) with rfl | rfl
          · exact c1
          · exact c2
        · simp at h2; omega
      · split at h2
        · rename_i hc
          rw [Bool.and_eq_true, Bool.and_eq_true, Bool.and_eq_true] at hc
          have c1 := cont_of hc.1.1.2
          have c2 := cont_of hc.1.2
          have c3 := cont_of hc.2
          split at h2
          · rcases (show j = pos + 1 ∨ j = pos + 2 ∨ j = pos + 3 by simp at h2; omega) with rfl | rfl | rfl
            · exact c1
            · exact c2
            · exact c3
          · simp at h2; omega
        · simp at h2; omega
/-- no byte of a line's end among the first ones -/
def NoEnd (t : List UInt8) (i : Nat) : Prop := ∀ j (h : j < t.length), j < i → t[j] ≠ 13 ∧ t[j] ≠ 10
theorem NoEnd.all {t : List UInt8} (h : NoEnd t t.length) : ¬ (13 ∈ t ∨ 10 ∈ t) := by
  rintro (m | m)
  · obtain ⟨j, hj, e⟩ := List.getElem_of_mem m
    exact (h j hj hj).1 e
  · obtain ⟨j, hj, e⟩ := List.getElem_of_mem m
    exact (h j hj hj).2 e
theorem get_list (t : List UInt8) (j : Nat) (h : j < t.length) : (⟨t.toArray⟩ : ByteArray).get! j = t[j] := by
  simp [ByteArray.get!, h]
theorem below_iterAt {n : Nat} {w W : World} (h : Below n w W) (k : Nat) (hk : n ≤ k) (s : ByteArray) (i : Nat) : Below n w (W.iterAt k s i) :=
  ⟨h.os, h.tape, h.output, by simpa [World.iterAt] using h.size, fun j hj => by
    simp only [World.iterAt]
    rw [Array.getElem?_setIfInBounds_ne (by omega)]
    exact h.block j hj⟩
theorem index_crlf (x : UInt8) : (0 ≤ Lib.indexByte crlf.data.toList x ↔ x = 13 ∨ x = 10) := by
  show 0 ≤ Lib.indexByte [13, 10] x ↔ _
  by_cases h1 : x = 13
  · subst h1; decide
  · by_cases h2 : x = 10
    · subst h2; decide
    · rw [index_none x [13, 10] (by simp [h1, h2])]
      simp [h1, h2]
set_option maxHeartbeats 4000000 in
set_option maxRecDepth 100000 in
theorem indexAny_short (t : List UInt8) (h8 : t.length ≤ 8) (w : World) :
    Calls Tryd.prog 53 #[.string ⟨t.toArray⟩, .string crlf] w fun e w' => ∃ z, e = .returned (.int .i64 z) ∧ Hid ((0 ≤ z ↔ 13 ∈ t ∨ 10 ∈ t) ∧ Below w.heap.size w w') := by
  obtain ⟨S, hS⟩ : ∃ S : ByteArray, S = ⟨t.toArray⟩ := ⟨_, rfl⟩
  have hsz : S.size = t.length := by rw [hS]; simp [ByteArray.size]
  have h8z : decide ((8 : Int) < (S.size : Int)) = false := decide_eq_false (by omega)
  have HU := hid (fun (w : World) => Tryd.strings_shouldUseASCIISet (S.size : Int) w)
  rw [h8z] at HU
  have HG : Hid (∀ j (h : j < t.length), S.get! j = t[j]) := fun j h => by rw [hS]; exact get_list t j h
  rw [← hS]
  have HZ := hid hsz
  have HT : Hid (∀ (i : Nat) (h : i < S.size) (h' : i < t.length), S[i]'h = t[i]'h') := fun i h h' => by subst hS; rfl
  clear hS h8z h8 hsz
  go_enter Tryd.func53, Tryd.ntmps53
  go_wp2_with fail
  refine (HU.out _).mono ?_; rintro e w' ⟨rfl, rfl⟩
  go_wp2_with fail
  go_loopg [9, 10] S.size (fun g _ _ wx => ∃ i : Nat, i + g = S.size ∧ wx.heap[w'.heap.size]? = some (.stringIter S i) ∧ Hid (Below w'.heap.size w' wx) ∧ Hid (NoEnd t i))
  case atStart => exact ⟨0, by omega, World.iter_heap _ _ _, iter_below _ _ _, fun j _ h => absurd h (by omega)⟩
  case round =>
    obtain ⟨i, hig, hit, HB, HN⟩ := hrel
    have hblt : w'.heap.size < wr.heap.size := (Array.getElem?_eq_some_iff.1 hit).1
    have Hg := hid hig
    cases gk with
    | zero =>
      have hnx := fun ty => Lib.run_next_end_at (P := Tryd.prog) wr w'.heap.size S i ty hit (by omega)
      clear hit hig
      go_wp2_with fail
      go_ret
      refine ⟨_, rfl, ⟨fun h => absurd h (by decide), fun h => absurd h (NoEnd.all ?_)⟩, HB.out⟩
      have := HN.out
      rwa [show i = t.length by have := Hg.out; have := HZ.out; omega] at this
    | succ g =>
      have hi : i < S.size := by omega
      have hit2 : i < t.length := by have := HZ.out; omega
      have hx := HT.out i hi hit2
      by_cases h128 : (S[i]'hi).toNat < 128
      · have hnx := fun ty => Lib.run_next_ascii_at (P := Tryd.prog) wr w'.heap.size S i ty hit hi h128
        have HI2 := hid (Lib.iterAt_heap wr w'.heap.size S i (i + 1) hit)
        have HB2 := hid (below_iterAt HB.out w'.heap.size (Nat.le_refl _) S (i + 1))
        rw [hx] at hnx h128
        have HR := hid (fun (w : World) => Tryd.strings_IndexRune_ascii crlf ((t[i].toNat : Nat) : Int) w (by omega) (by omega))
        have hback : ((t[i].toNat : Int)).toNat.toUInt8 = t[i] := by simp
        rw [hback] at HR
        have hci := index_crlf t[i]
        have HM : Hid (t[i] ∈ t) := List.getElem_mem hit2
        have HN2 : Hid (¬ (t[i] = 13 ∨ t[i] = 10) → NoEnd t (i + 1)) := fun hn j hj hji => by
          by_cases e : j = i
          · subst e; exact ⟨fun h => hn (.inl h), fun h => hn (.inr h)⟩
          · exact HN.out j hj (by omega)
        generalize t[i] = x at *
        clear hit hig hx hback
        by_cases hc : x = 13 ∨ x = 10
        · have hge : (0 : Int) ≤ Lib.indexByte crlf.data.toList x := hci.2 hc
          have HC := hid hc
          clear hci hc
          go_wp2_with fail
          refine (HR.out _).mono ?_; rintro e w2 ⟨rfl, rfl⟩
          go_wp2_with fail
          go_ret
          refine ⟨_, rfl, ⟨fun _ => ?_, fun _ => by simp⟩, HB2.out⟩
          rcases HC.out with h | h
          · exact .inl (h ▸ HM.out)
          · exact .inr (h ▸ HM.out)
        · have hge : ¬ (0 : Int) ≤ Lib.indexByte crlf.data.toList x := fun h => hc (hci.1 h)
          have HC := hid (HN2.out hc)
          clear hci hc
          go_wp2_with fail
          refine (HR.out _).mono ?_; rintro e w2 ⟨rfl, rfl⟩
          go_wp2_with fail
          go_roundg g
          case measure => omega
          case rel => exact ⟨i + 1, by have := Hg.out; omega, HI2.out, HB2.out, HC.out⟩
      · have hnx := fun ty => Lib.run_next_any_at (P := Tryd.prog) wr w'.heap.size S i ty hit hi
        obtain ⟨hr0, hw1⟩ := decode_high S i hi (by omega)
        have hr1 := decode_le S i
        have hsk := decode_skips S i
        generalize (Utf8.decode S i).1 = R at *
        generalize (Utf8.decode S i).2 = D at *
        have HI2 := hid (Lib.iterAt_heap wr w'.heap.size S i (i + D) hit)
        have HB2 := hid (below_iterAt HB.out w'.heap.size (Nat.le_refl _) S (i + D))
        have HD : Hid (i + D ≤ S.size) := by
          by_cases e : D = 1
          · subst e; unfold Hid; omega
          · have := (hsk (i + D - 1) (by omega) (by omega)).1
            unfold Hid; omega
        have HC : Hid (NoEnd t (i + D)) := fun j hj hji => by
          by_cases e : j < i
          · exact HN.out j hj e
          · have h128 : 128 ≤ t[j].toNat := by
              by_cases e2 : j = i
              · subst e2; rw [hx] at h128; omega
              · rw [← HG.out j hj]; exact (hsk j (by omega) hji).2
            constructor
            · intro e; rw [e] at h128; revert h128; decide
            · intro e; rw [e] at h128; revert h128; decide
        have HR := hid (fun (w : World) => indexRune_high (R : Int) (by omega) (by omega) w)
        clear hit hig hx hsk h128
        go_wp2_with fail
        refine (HR.out _).mono ?_; rintro e w2 ⟨rfl, hb2⟩
        have HI3 : Hid (w2.heap[w'.heap.size]? = some (.stringIter S (i + D))) := (hb2.block _ (by simpa [World.iterAt] using hblt)).trans HI2.out
        have HB3 := hid (HB2.out.trans (hb2.mono HB2.out.size))
        clear hb2
        go_wp2_with fail
        go_roundg (g + 1 - D)
        case measure => omega
        case rel => exact ⟨i + D, by have := Hg.out; have := HD.out; omega, HI3.out, HB3.out, HC.out⟩
theorem hv89 : ∀ w, (zeroValue 89).run Tryd.prog w = .ok (.agg (Array.replicate 256 (.bool false))) w := (zero_of_info (P := Tryd.prog) (n := 256) (by kernel_rfl)).1
theorem indexAny_any (t : List UInt8) (h : t.length ≤ 509) (w : World) :
    Calls Tryd.prog 53 #[.string ⟨t.toArray⟩, .string crlf] w fun e w' => ∃ z, e = .returned (.int .i64 z) ∧ Hid ((0 ≤ z ↔ 13 ∈ t ∨ 10 ∈ t) ∧ Below w.heap.size w w') := by
  by_cases h8 : t.length ≤ 8
  · exact indexAny_short t h8 w
  · have hsz : (⟨t.toArray⟩ : ByteArray).size = t.length := by simp [ByteArray.size]
    refine (Tryd.strings_IndexAny_long hv89 ⟨t.toArray⟩ crlf w (by decide) (by omega) (by omega) (by decide) (fun j b hb => ?_)).mono ?_
    · match j, hb with
      | 0, hb => simp at hb; rw [← hb]; decide
      | 1, hb => simp at hb; rw [← hb]; decide
    · rintro e w' ⟨rfl, rfl⟩
      refine ⟨_, rfl, ?_, below2 w _ _⟩
      show 0 ≤ Lib.indexAny t [13, 10] ↔ _
      clear hsz h h8
      induction t with
      | nil => simp [Lib.indexAny]
      | cons b t ih =>
        by_cases hb : b = 13 ∨ b = 10
        · have e : ([13, 10] : List UInt8).contains b = true := by rcases hb with rfl | rfl <;> decide
          simp only [Lib.indexAny, e, if_true]
          rcases hb with rfl | rfl <;> simp
        · have e : ([13, 10] : List UInt8).contains b = false := by simp; simpa using hb
          have h1 : ¬ (13 : UInt8) = b := fun h => hb (.inl h.symm)
          have h2 : ¬ (10 : UInt8) = b := fun h => hb (.inr h.symm)
          simp only [Lib.indexAny, e, List.mem_cons, h1, h2, false_or, ← ih]
          by_cases e1 : Lib.indexAny t [13, 10] = -1
          · simp [e1]
          · have : -1 ≤ Lib.indexAny t [13, 10] := Lib.indexAny_ge _ _
            simp [e1]; omega
set_option maxHeartbeats 1000000 in
set_option maxRecDepth 100000 in
theorem containsAny_any (t : List UInt8) (h : t.length ≤ 509) (w : World) :
    Calls Tryd.prog 46 #[.string ⟨t.toArray⟩, .string crlf] w fun e w' => e = .returned (.bool (decide (13 ∈ t ∨ 10 ∈ t))) ∧ Hid (Below w.heap.size w w') := by
  have H := hid (indexAny_any t h w)
  obtain ⟨V, hV⟩ : ∃ V, V = decide (13 ∈ t ∨ 10 ∈ t) := ⟨_, rfl⟩
  rw [← hV]
  have HV := hid hV
  clear hV
  go_enter Tryd.func46, Tryd.ntmps46
  go_wp2_with fail
  refine H.out.mono ?_; rintro e w2 ⟨z, rfl, hh⟩
  have HH := hid hh.out
  clear hh
  by_cases hz : 0 ≤ z
  · obtain rfl : V = true := by rw [HV.out]; exact decide_eq_true (HH.out.1.1 hz)
    go_wp2
    go_ret
    exact ⟨rfl, HH.out.2⟩
  · obtain rfl : V = false := by rw [HV.out]; exact decide_eq_false (fun h => hz (HH.out.1.2 h))
    have hd : decide (0 ≤ z) = false := decide_eq_false hz
    clear hz
    go_wp2
    go_ret
    exact ⟨rfl, HH.out.2⟩
set_option maxHeartbeats 1000000 in
set_option maxRecDepth 100000 in
/-- isLine -/
theorem isLine_any (t : List UInt8) (w : World) (h : t.length ≤ 9223372036854775807) :
    Calls Tryd.prog 38 #[.string ⟨t.toArray⟩] w fun e w' => e = .returned (.bool (decide (Pl t))) ∧ Hid (Below w.heap.size w w') := by
  by_cases h5 : t.length ≤ 509
  · have H := hid (containsAny_any t h5 w)
    have hz : (t.length : Int) ≤ 509 := by omega
    cases hc : decide (13 ∈ t ∨ 10 ∈ t)
    · have hd : decide (Pl t) = true := decide_eq_true ⟨h5, fun m => of_decide_eq_false hc (.inl m), fun m => of_decide_eq_false hc (.inr m)⟩
      rw [hd]
      rw [hc] at H
      clear hd hc
      go_enter Tryd.func38, Tryd.ntmps38
      go_wp2_with fail
      refine H.out.mono ?_; rintro e w2 ⟨rfl, hh⟩
      go_wp2
      go_ret
      exact ⟨rfl, hh.out⟩
    · have hd : decide (Pl t) = false := decide_eq_false fun hp => by
        rcases of_decide_eq_true hc with m | m
        · exact hp.2.1 m
        · exact hp.2.2 m
      rw [hd]
      rw [hc] at H
      clear hd hc
      go_enter Tryd.func38, Tryd.ntmps38
      go_wp2_with fail
      refine H.out.mono ?_; rintro e w2 ⟨rfl, hh⟩
      go_wp2
      go_ret
      exact ⟨rfl, hh.out⟩
  · have hd : decide (Pl t) = false := decide_eq_false fun hp => h5 hp.1
    rw [hd]
    have hz : ¬ (t.length : Int) ≤ 509 := by omega
    clear hd
    go_enter Tryd.func38, Tryd.ntmps38
    go_wp2_with fail
    go_ret
    exact ⟨rfl, Below.refl _ _⟩

end Go.Proofs.YtngkbacnajgmcaaDoor
