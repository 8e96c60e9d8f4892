/- The words of a line, by the document: ref parts. -/
import Derived.Test.YtjcegiponjpjiaaDoorFields
import Derived.Test.YtjcegiponjpjiaaDoorRefSame
import Derived.Test.YtjcegiponjpjiaaDoorRefNumber
import Derived.Laws.Strings2
namespace Go.Proofs.YtjcegiponjpjiaaDoor
open Go.RowKit

def strV (s : List UInt8) : Value := .string ⟨s.toArray⟩
theorem push_str (B : Nat) (w : World) (v : Value) (L : List (List UInt8)) (s : List UInt8) (h : w.ownsRow B 9 1 v L.length (L.map strV)) (hB : B ≤ w.heap.size) (hl : L.length ≤ 100000000) :
    ∃ v' w', (Builtin.append_ #[36, 36] 36 #[v, .slice (some ⟨w.heap.size, 0, none⟩) 1 1]).run Tryd.prog (w.alloc (.cells #[strV s] 9)) = .ok v' w' ∧ w'.ownsRow B 9 1 v' (L ++ [s]).length ((L ++ [s]).map strV) ∧ Below B w w' ∧ B ≤ w'.heap.size := by
  obtain ⟨i0, hi, hz0, hz1, hz2⟩ := info_parts infoStr
  have hown' := owns_below h (below_alloc w (.cells #[strV s] 9))
  obtain ⟨v', w', hrun, ho, hgr, _⟩ := run_append_own (P := Tryd.prog) (w.alloc (.cells #[strV s] 9)) B 36 36 9 i0 (.string ⟨#[]⟩) 1 16 Tryd.underlying36 hi hz0 hz1 hz2 rfl (by decide) _ _ _ hown' ⟨w.heap.size, 0, none⟩ 1 1 [strV s] rfl
    (fun j u hj => by
      rw [Go.WideShapes.add_plain, cell_of_row _ _ _ _ _ _ (heap_alloc_new w _)]
      simpa using hj)
    (fun u hu => by rw [List.mem_singleton.1 hu]; rfl) (by unfold maxLen; omega) (by omega) (by simp; omega)
  refine ⟨v', w', hrun, ?_, ?_, ?_⟩
  · rw [List.map_append, List.length_append]
    exact ho
  · exact ((Below.refl B w).alloc hB _).grown hgr (by simp; omega) (fun k hk => (World.ownsRow.lt h k hk).1)
  · have := hgr.size; simp at this; omega
theorem cutOut_take {l : List UInt8} {a b e : Nat} (h : b ≤ e) : cutOut (l.take e) a b = cutOut l a b := by
  unfold cutOut
  rw [List.take_take, Nat.min_eq_left h]
theorem extract_cut (l : List UInt8) (a b : Nat) : ((⟨l.toArray⟩ : ByteArray).extract a b) = ⟨(cutOut l a b).toArray⟩ := by
  rw [Lib.extract_eq]
  simp [cutOut, List.drop_take]
/-- how far ref parts has come -/
def Far (l : List UInt8) (a i : Nat) (acc : List (List UInt8)) : Prop := (i ≤ bodyLen l → Read (l.take (bodyLen l)) a i acc) ∧ (bodyLen l < i → words l = acc)

set_option maxHeartbeats 2000000 in
set_option maxRecDepth 100000 in
theorem rparts_any (l : List UInt8) (w : World) (h1 : 1 ≤ l.length) (h5 : l.length ≤ 512) :
    Calls Tryd.prog 31 #[.string ⟨l.toArray⟩] w fun e w' => ∃ v, e = .returned v ∧ Hid (w'.ownsRow w.heap.size 9 1 v (words l).length ((words l).map strV) ∧ Below w.heap.size w w') := by
  have HF0 : Hid (Far l 0 0 []) := ⟨fun _ => read_first _, fun h => absurd h (Nat.not_lt_zero _)⟩
  obtain ⟨Wd, hWd⟩ : ∃ Wd, Wd = words l := ⟨_, rfl⟩
  rw [← hWd]
  have HWd := hid hWd
  clear hWd
  obtain ⟨m, hm⟩ : ∃ m, l.length = m + 1 := ⟨l.length - 1, by omega⟩
  have hways : (∃ E, bodyLen l = E ∧ m = E ∧ (E = 0 ∨ ∃ n, E = n + 1 ∧ ∃ y : Int, (∃ h : n < l.length, ((((⟨l.toArray⟩ : ByteArray)[n]'(by simpa [ByteArray.size] using h)).toNat : Nat) : Int) = y) ∧ (y == 13) = false)) ∨ (∃ E, bodyLen l = E ∧ m = E + 1 ∧ ∃ h : E < l.length, ((((⟨l.toArray⟩ : ByteArray)[E]'(by simpa [ByteArray.size] using h)).toNat : Nat) : Int) = 13) := by
    unfold bodyLen
    by_cases hc : 1 < l.length ∧ l[l.length - 2]? = some 13
    · rw [if_pos hc]
      refine .inr ⟨l.length - 2, rfl, by omega, by omega, ?_⟩
      have h2 := hc.2
      rw [List.getElem?_eq_getElem (by omega)] at h2
      injection h2 with h2
      rw [byteAt (by omega), h2]; rfl
    · rw [if_neg hc]
      refine .inl ⟨l.length - 1, rfl, by omega, ?_⟩
      by_cases h0 : l.length - 1 = 0
      · exact .inl h0
      · refine .inr ⟨l.length - 2, by omega, _, ⟨by omega, byteAt (by omega)⟩, beq_eq_false_iff_ne.2 fun e => hc ⟨by omega, ?_⟩⟩
        rw [List.getElem?_eq_getElem (by omega)]
        congr 1
        exact UInt8.toNat_inj.1 (by have : (13 : UInt8).toNat = 13 := rfl; omega)
  obtain ⟨B, hB⟩ : ∃ B, B = bodyLen l := ⟨_, rfl⟩
  have HBe := hid hB
  have hBl : B + 1 ≤ l.length := by
    rcases hways with ⟨E, h, h2, _⟩ | ⟨E, h, h2, _⟩ <;> omega
  rw [← hB] at hways
  have HW := hid hways
  clear hways hB
  go_enter Tryd.func31, Tryd.ntmps31
  rcases HW.out with ⟨E, hE, hmE, hE0 | ⟨n, hEn, y, ⟨hn, hy⟩, hy13⟩⟩ | ⟨E, hE, hmE, hn, hy⟩
  all_goals
    subst hE
    have hmB := hmE.symm
    clear hmE
    subst hmB
  case' inl.inl =>
    have hz : ¬ (0 < (B : Int)) := by omega
    clear hE0
  case' inl.inr =>
    have hz : 0 < (B : Int) := by omega
    have hsub : (B : Int) - 1 = (n : Int) := by omega
    clear hEn
  all_goals
    go_wp2
    go_loopw [3, 5, 6] (fun v3 v5 v6 W => ∃ (a i : Nat) (acc : List (List UInt8)), v5 = .int .i64 a ∧ v6 = .int .i64 i ∧ a ≤ i ∧ i ≤ B + 1 ∧ acc.length ≤ i ∧ Hid (W.ownsRow w.heap.size 9 1 v3 acc.length (acc.map strV)) ∧ Hid (Below w.heap.size w W) ∧ Hid (w.heap.size ≤ W.heap.size) ∧ Hid (Far l a i acc)) (fun _ _ v6 _ => B + 2 - (intOf v6).toNat)
    case atStart => exact ⟨0, 0, [], rfl, rfl, Nat.le_refl _, by omega, Nat.le_refl _, ⟨rfl, .inl ⟨rfl, rfl⟩⟩, Below.refl _ _, Nat.le_refl _, HF0.out⟩
    case round =>
      obtain ⟨a, i, acc, rfl, rfl, hai, hi, hacc, HO, HBl, HSz, HF⟩ := hrel
      by_cases hi2 : i ≤ B
      · have hrd := HF.out.1 (by rw [← HBe.out]; exact hi2)
        rw [← HBe.out] at hrd
        have htl : (l.take B).length = B := by simp; omega
        by_cases he : i = B
        · subst he
          have hlast := read_last (l := l.take i) (a := a) (acc := acc) (by rw [htl]; exact hrd)
          rw [htl, cutOut_take (Nat.le_refl _)] at hlast
          have hcl := cutOut_len (l := l) (a := a) (b := i) (by omega)
          have hwd : words l = acc ++ if cutOut l a i = [] then [] else [cutOut l a i] := by
            rw [← hlast]; unfold words; rw [← HBe.out]
          by_cases hab : a < i
          · have hne : cutOut l a i ≠ [] := fun e => by rw [e] at hcl; simp at hcl; omega
            rw [if_neg hne] at hwd
            have HFar : Hid (Far l (i + 1) (i + 1) (acc ++ [cutOut l a i])) := ⟨fun h => by rw [← HBe.out] at h; omega, fun _ => hwd⟩
            obtain ⟨v', w3, hrun, ho3, hb3, hs3⟩ := push_str w.heap.size wr u3 acc (cutOut l a i) HO.out HSz.out (by omega)
            have HRun := hid hrun
            have HO3 := hid ho3
            have HB3 := hid (HBl.out.trans hb3)
            have HS3 := hid hs3
            have hal : (acc ++ [cutOut l a i]).length = acc.length + 1 := by simp
            have hex := extract_cut l a i
            obtain ⟨S, hS⟩ : ∃ S : ByteArray, S = ⟨(cutOut l a i).toArray⟩ := ⟨_, rfl⟩
            rw [← hS] at hex
            have HRun2 : Hid ((Builtin.append_ #[36, 36] 36 #[u3, .slice (some ⟨wr.heap.size, 0, none⟩) 1 1]).run Tryd.prog (wr.alloc (.cells #[.string S] 9)) = .ok v' w3) := by rw [hS]; exact HRun.out
            have hsl : ∀ W, (Instr.slice 9 (.string ⟨l.toArray⟩) (some (.int .i64 (a : Int))) (some (.int .i64 (i : Int))) none).run Tryd.prog W = .ok (.string S) W := fun W => by
              have h := run_slice_string (P := Tryd.prog) W 9 ⟨l.toArray⟩ .i64 .i64 (a : Int) (i : Int) Tryd.underlying9 (by omega) (by omega) (by simp [ByteArray.size]; omega)
              rw [h]
              simp only [Int.toNat_natCast]
              rw [hex]
            clear hrun ho3 hb3 hs3 hS HRun
            have hil : (i : Int) ≤ (l.length : Int) := by omega
            clear hrd htl hlast hcl hwd hne HF HO
            go_wp2_with (at_builtin; refine wpList_append_runs rfl _ _ 36 36 rfl _ _ _ _ rfl rfl HRun2.out ?_)
            first | (exfalso; omega) | exact ⟨⟨i + 1, i + 1, _, by go_num, by go_num, Nat.le_refl _, Nat.le_refl _, by omega, HO3.out, HB3.out, HS3.out, HFar.out⟩, by first | (simp [intOf]; done) | (simp [intOf]; omega)⟩
          · have hnil : cutOut l a i = [] := List.eq_nil_of_length_eq_zero (by omega)
            rw [if_pos hnil, List.append_nil] at hwd
            have HFar : Hid (Far l (i + 1) (i + 1) acc) := ⟨fun h => by rw [← HBe.out] at h; omega, fun _ => hwd⟩
            clear hrd htl hlast hcl hwd hnil HF
            go_wp2
            exact ⟨⟨i + 1, i + 1, _, by go_num, by go_num, Nat.le_refl _, Nat.le_refl _, by omega, HO.out, HBl.out, HSz.out, HFar.out⟩, by first | (simp [intOf]; done) | (simp [intOf]; omega)⟩
        · have hiB : i < B := by omega
          have hil : i < l.length := by omega
          have hby := byteAt hil
          obtain ⟨y0, hy0⟩ : ∃ y : Int, y = (l[i].toNat : Int) := ⟨_, rfl⟩
          rw [← hy0] at hby
          have hgt : (l.take B)[i]'(by rw [htl]; exact hiB) = l[i] := by rw [List.getElem_take]
          have hneB : ((i : Int) == (B : Int)) = false := beq_eq_false_iff_ne.2 (by omega)
          have hcl := cutOut_len (l := l) (a := a) (b := i) (by omega)
          cases hbk : blank l[i]
          · have hrm := read_more hrd (by rw [htl]; exact hiB) hai (by rw [hgt]; exact hbk)
            have HFar : Hid (Far l a (i + 1) acc) := ⟨fun _ => by rw [← HBe.out]; exact hrm, fun h => by rw [← HBe.out] at h; omega⟩
            have hq : (y0 == 32) = false ∧ (y0 == 9) = false := by
              unfold blank at hbk
              rw [Bool.or_eq_false_iff, beq_eq_false_iff_ne, beq_eq_false_iff_ne] at hbk
              exact ⟨beq_eq_false_iff_ne.2 fun e => hbk.1 (UInt8.toNat_inj.1 (by have : (32 : UInt8).toNat = 32 := rfl; omega)), beq_eq_false_iff_ne.2 fun e => hbk.2 (UInt8.toNat_inj.1 (by have : (9 : UInt8).toNat = 9 := rfl; omega))⟩
            obtain ⟨hq1, hq2⟩ := hq
            clear hrm hrd htl hgt hbk hcl HF hy0
            go_wp2
            exact ⟨⟨a, i + 1, _, rfl, by go_num, by omega, by omega, by omega, HO.out, HBl.out, HSz.out, HFar.out⟩, by first | (simp [intOf]; done) | (simp [intOf]; omega)⟩
          · have hrb := read_blank hrd (by rw [htl]; exact hiB) (by rw [hgt]; exact hbk)
            rw [cutOut_take (by omega)] at hrb
            have hq : (y0 == 32) = true ∨ ((y0 == 32) = false ∧ (y0 == 9) = true) := by
              unfold blank at hbk
              rw [Bool.or_eq_true, beq_iff_eq, beq_iff_eq] at hbk
              by_cases e : y0 = 32
              · exact .inl (by rw [e]; rfl)
              · refine .inr ⟨beq_eq_false_iff_ne.2 e, ?_⟩
                rcases hbk with h | h
                · exact absurd (by rw [hy0, h]; rfl) e
                · rw [hy0, h]; rfl
            by_cases hab : a < i
            · have hne : cutOut l a i ≠ [] := fun e => by rw [e] at hcl; simp at hcl; omega
              rw [if_neg hne] at hrb
              have HFar : Hid (Far l (i + 1) (i + 1) (acc ++ [cutOut l a i])) := ⟨fun _ => by rw [← HBe.out]; exact hrb, fun h => by rw [← HBe.out] at h; omega⟩
              obtain ⟨v', w3, hrun, ho3, hb3, hs3⟩ := push_str w.heap.size wr u3 acc (cutOut l a i) HO.out HSz.out (by omega)
              have HRun := hid hrun
              have HO3 := hid ho3
              have HB3 := hid (HBl.out.trans hb3)
              have HS3 := hid hs3
              have hal : (acc ++ [cutOut l a i]).length = acc.length + 1 := by simp
              have hex := extract_cut l a i
              obtain ⟨S, hS⟩ : ∃ S : ByteArray, S = ⟨(cutOut l a i).toArray⟩ := ⟨_, rfl⟩
              rw [← hS] at hex
              have HRun2 : Hid ((Builtin.append_ #[36, 36] 36 #[u3, .slice (some ⟨wr.heap.size, 0, none⟩) 1 1]).run Tryd.prog (wr.alloc (.cells #[.string S] 9)) = .ok v' w3) := by rw [hS]; exact HRun.out
              have hsl : ∀ W, (Instr.slice 9 (.string ⟨l.toArray⟩) (some (.int .i64 (a : Int))) (some (.int .i64 (i : Int))) none).run Tryd.prog W = .ok (.string S) W := fun W => by
                have h := run_slice_string (P := Tryd.prog) W 9 ⟨l.toArray⟩ .i64 .i64 (a : Int) (i : Int) Tryd.underlying9 (by omega) (by omega) (by simp [ByteArray.size]; omega)
                rw [h]
                simp only [Int.toNat_natCast]
                rw [hex]
              clear hrun ho3 hb3 hs3 hS HRun
              have hilI : (i : Int) ≤ (l.length : Int) := by omega
              clear hrb hrd htl hgt hbk hcl hne HF HO hy0
              rcases hq with hq1 | ⟨hq1, hq2⟩
              all_goals
                go_wp2_with (at_builtin; refine wpList_append_runs rfl _ _ 36 36 rfl _ _ _ _ rfl rfl HRun2.out ?_)
                first | (exfalso; omega) | exact ⟨⟨i + 1, i + 1, _, by go_num, by go_num, Nat.le_refl _, by omega, by omega, HO3.out, HB3.out, HS3.out, HFar.out⟩, by first | (simp [intOf]; done) | (simp [intOf]; omega)⟩
            · have hnil : cutOut l a i = [] := List.eq_nil_of_length_eq_zero (by omega)
              rw [if_pos hnil, List.append_nil] at hrb
              have HFar : Hid (Far l (i + 1) (i + 1) acc) := ⟨fun _ => by rw [← HBe.out]; exact hrb, fun h => by rw [← HBe.out] at h; omega⟩
              clear hrb hrd htl hgt hbk hcl hnil HF hy0
              rcases hq with hq1 | ⟨hq1, hq2⟩
              all_goals
                go_wp2
                exact ⟨⟨i + 1, i + 1, _, by go_num, by go_num, Nat.le_refl _, by omega, by omega, HO.out, HBl.out, HSz.out, HFar.out⟩, by first | (simp [intOf]; done) | (simp [intOf]; omega)⟩
      · have hwd := HF.out.2 (by rw [← HBe.out]; omega)
        obtain rfl : Wd = acc := HWd.out.trans hwd
        clear hwd
        go_wp2
        go_ret
        exact ⟨_, rfl, HO.out, HBl.out⟩

end Go.Proofs.YtjcegiponjpjiaaDoor
