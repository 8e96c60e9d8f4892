/- A line's number, by the document: ref number. -/
import Derived.Test.YtjcegiponjpjiaaDoorNumPure
import Derived.Test.YtjcegiponjpjiaaDoorRefLine
namespace Go.Proofs.YtjcegiponjpjiaaDoor
open Go.RowKit

/-- what ref number tells -/
def refNum (l : List UInt8) (most : Nat) : Int := match num l most with | some n => (n : Int) | none => -1
theorem refNum_none {l : List UInt8} {most : Nat} (h : num l most = none) : refNum l most = -1 := by unfold refNum; rw [h]
theorem refNum_some {l : List UInt8} {most n : Nat} (h : num l most = some n) : refNum l most = (n : Int) := by unfold refNum; rw [h]
theorem suffix_is {l : List UInt8} {m : Nat} (hl : l.length = m + 3) : Lib.hasSuffix (l.drop 1) [13, 10] = decide (l[m + 1] = 13 ∧ l[m + 2] = 10) := by
  have hd : (l.drop 1).drop ((l.drop 1).length - 2) = [l[m + 1], l[m + 2]] := by
    rw [List.drop_drop]
    have e : 1 + ((l.drop 1).length - 2) = m + 1 := by simp; omega
    rw [e, List.drop_eq_getElem_cons (by omega), List.drop_eq_getElem_cons (by omega), List.drop_eq_nil_of_le (by omega)]
  have key : [13, 10] <:+ l.drop 1 ↔ l[m + 1] = 13 ∧ l[m + 2] = 10 := by
    rw [List.suffix_iff_eq_drop]
    simp only [List.length_cons, List.length_nil, Nat.zero_add, Nat.reduceAdd]
    rw [hd]
    constructor
    · intro h; injection h with h1 h2; injection h2 with h2 _; exact ⟨h1.symm, h2.symm⟩
    · rintro ⟨h1, h2⟩; rw [h1, h2]
  unfold Lib.hasSuffix
  by_cases h : l[m + 1] = 13 ∧ l[m + 2] = 10
  · rw [decide_eq_true h]; exact List.isSuffixOf_iff_suffix.2 (key.2 h)
  · rw [decide_eq_false h]
    cases hb : List.isSuffixOf [13, 10] (l.drop 1)
    · rfl
    · exact absurd (key.1 (List.isSuffixOf_iff_suffix.1 hb)) h
theorem valGo_cons (n : Nat) (d : UInt8) (ds : List UInt8) : valGo n (d :: ds) = if 48 ≤ d.toNat ∧ d.toNat ≤ 57 then valGo (n * 10 + (d.toNat - 48)) ds else none := rfl
theorem byteAt {l : List UInt8} {n : Nat} (h : n < l.length) : ((((⟨l.toArray⟩ : ByteArray)[n]'(by simpa [ByteArray.size] using h)).toNat : Nat) : Int) = (l[n].toNat : Int) := rfl
set_option maxHeartbeats 2000000 in
set_option maxRecDepth 100000 in
theorem rnumber_any (l : List UInt8) (most : Nat) (w : World) (hl : l.length ≤ 140737488351232) (hm : most ≤ 1024) :
    Calls Tryd.prog 32 #[.string ⟨l.toArray⟩, .int .i64 most] w fun e w' => e = .returned (.int .i64 (refNum l most)) ∧ w' = w := by
  by_cases h4 : l.length < 4
  · have HV := hid (refNum_none (num_short (most := most) h4))
    go_enter Tryd.func32, Tryd.ntmps32
    go_wp2
    go_ret
    exact ⟨by rw [HV.out]; rfl, rfl⟩
  · by_cases h8 : 8 < l.length
    · have HV := hid (refNum_none (num_long hm h8))
      go_enter Tryd.func32, Tryd.ntmps32
      go_wp2
      go_ret
      exact ⟨by rw [HV.out]; rfl, rfl⟩
    · obtain ⟨m, hlen⟩ : ∃ m, l.length = m + 3 := ⟨l.length - 3, by omega⟩
      have hm1 : 1 ≤ m := by omega
      have hm5 : m ≤ 5 := by omega
      have h1l : 1 < l.length := by omega
      have hsx := suffix_is hlen
      have b1 := byteAt (l := l) (n := m + 1) (by omega)
      have b2 := byteAt (l := l) (n := m + 2) (by omega)
      obtain ⟨y1, hy1⟩ : ∃ y : Int, y = (l[m + 1].toNat : Int) := ⟨_, rfl⟩
      obtain ⟨y2, hy2⟩ : ∃ y : Int, y = (l[m + 2].toNat : Int) := ⟨_, rfl⟩
      rw [← hy1] at b1
      rw [← hy2] at b2
      by_cases hok : l[m + 1] = 13 ∧ l[m + 2] = 10
      · obtain ⟨h13, h10⟩ := hok
        obtain rfl : y1 = 13 := by rw [hy1, h13]; rfl
        obtain rfl : y2 = 10 := by rw [hy2, h10]; rfl
        rw [decide_eq_true ⟨h13, h10⟩] at hsx
        obtain ⟨ds, hds⟩ : ∃ ds, ds = (l.drop 1).take m := ⟨_, rfl⟩
        have hdl : ds.length = m := by rw [hds]; simp; omega
        have hat : ∀ k (hk : k < ds.length) (hk1 : k + 1 < l.length), ds[k] = l[k + 1] := fun k hk hk1 => by
          simp only [hds, List.getElem_take, List.getElem_drop]
          congr 1; omega
        have hnum : num l most = if ds = [] ∨ (1 < ds.length ∧ ds.head? = some 48) then none else numGo most 0 ds := by
          have e : l.length - 3 = m := by omega
          unfold num digitsOf
          rw [if_pos hsx]
          simp only
          rw [e, ← hds]
        rw [numGo_val most ds 0 (Nat.zero_le _)] at hnum
        have hhd : ds.head? = some (l[1]'h1l) := by
          rw [← hat 0 (by omega) (by omega)]
          cases ds with
          | nil => simp at hdl; omega
          | cons d r => rfl
        have b0 := byteAt (l := l) (n := 1) h1l
        obtain ⟨x1, hx1⟩ : ∃ y : Int, y = ((l[1]'h1l).toNat : Int) := ⟨_, rfl⟩
        rw [← hx1] at b0
        have h48 : x1 = 48 ↔ ds.head? = some 48 := by
          rw [hhd, hx1]
          constructor
          · intro e; congr 1; exact UInt8.toNat_inj.1 (by have : (48 : UInt8).toNat = 48 := rfl; omega)
          · intro e; injection e with e; rw [e]; rfl
        have HLead : Hid (1 < m → x1 = 48 → refNum l most = -1) := fun h e => refNum_none (by rw [hnum, if_pos (.inr ⟨by omega, h48.1 e⟩)])
        have HBad : Hid (valGo 0 ds = none → refNum l most = -1) := fun h => refNum_none (by rw [hnum, h]; split <;> rfl)
        have HEnd : Hid (∀ n, valGo 0 ds = some n → (1 < m → x1 ≠ 48) → refNum l most = if most < n then -1 else (n : Int)) := fun n h hx => by
          have hn : num l most = if most < n then none else some n := by
            rw [hnum, h, if_neg]
            · rfl
            · rintro (e | ⟨e, e2⟩)
              · rw [e] at hdl; simp at hdl; omega
              · exact hx (by omega) (h48.2 e2)
          by_cases hh : most < n
          · rw [if_pos hh] at hn ⊢; exact refNum_none hn
          · rw [if_neg hh] at hn ⊢; exact refNum_some hn
        have HAt := hid hat
        have i1 : (4 : Int) ≤ (m : Int) + 3 := by omega
        have i2 : (m : Int) + 3 ≤ 8 := by omega
        have i3 : (2 : Int) ≤ (m : Int) + 3 := by omega
        have i4 : (m : Int) + 3 - 2 < (m : Int) + 3 := by omega
        have i5 : (1 : Int) ≤ (m : Int) + 3 := by omega
        have i6 : (m : Int) + 3 - 1 < (m : Int) + 3 := by omega
        have HDL := hid hdl
        clear hsx hy1 hy2 h4 h8 h13 h10 hnum hhd hx1 h48 hat hds hdl
        generalize refNum l most = V at HLead HBad HEnd ⊢
        go_enter Tryd.func32, Tryd.ntmps32
        go_wp2
        go_loop [5, 6] (fun v5 v6 => ∃ (z : Int) (k : Nat), v5 = .int .i64 z ∧ v6 = .int .i64 ((k : Int) + 1) ∧ k ≤ m ∧ 0 ≤ z ∧ z ≤ 99999 ∧ Hid (∃ n : Nat, (n : Int) = z ∧ n < 10 ^ k ∧ valGo 0 ds = valGo n (ds.drop k)) ∧ Hid (2 ≤ k → x1 ≠ 48)) (fun _ v6 => m + 1 - (intOf v6).toNat)
        case atStart => exact ⟨0, 0, rfl, rfl, by omega, by omega, by omega, ⟨0, rfl, by decide, by rw [List.drop_zero]⟩, fun h => by omega⟩
        case round =>
          obtain ⟨z, k, rfl, rfl, hk, hz0, hz9, HN, HX⟩ := hrel
          by_cases hlt : k < m
          · have bk := byteAt (l := l) (n := k + 1) (by omega)
            obtain ⟨x, hx⟩ : ∃ y : Int, y = (l[k + 1].toNat : Int) := ⟨_, rfl⟩
            rw [← hx] at bk
            obtain ⟨n, hnz, hnk, hv⟩ := HN.out
            rw [List.drop_eq_getElem_cons (by rw [HDL.out]; exact hlt), HAt.out k (by rw [HDL.out]; exact hlt) (by omega)] at hv
            rw [valGo_cons] at hv
            have j1 : (k : Int) + 1 < (m : Int) + 3 - 2 := by omega
            by_cases hd : 48 ≤ l[k + 1].toNat ∧ l[k + 1].toNat ≤ 57
            · rw [if_pos hd] at hv
              have hx1 : 48 ≤ x := by omega
              have hx2 : x ≤ 57 := by omega
              by_cases hbad : 1 ≤ k ∧ x1 = 48
              · have HV := hid (HLead.out (by omega) hbad.2)
                have hk1 : (1 : Int) < (k : Int) + 1 := by omega
                obtain ⟨_, rfl⟩ := hbad
                clear hv hd hx hnk hnz
                go_wp2
                go_ret
                exact ⟨by rw [HV.out]; rfl, rfl⟩
              · have HH : Hid (∃ n' : Nat, (n' : Int) = z * 10 + x - 48 ∧ n' < 10 ^ (k + 1) ∧ valGo 0 ds = valGo n' (ds.drop (k + 1))) := ⟨n * 10 + (l[k + 1].toNat - 48), by omega, by rw [Nat.pow_succ]; omega, hv⟩
                have HX2 : Hid (2 ≤ k + 1 → x1 ≠ 48) := fun h e => hbad ⟨by omega, e⟩
                have hz99 : z * 10 + x - 48 ≤ 99999 := by
                  have h1 : n * 10 + (l[k + 1].toNat - 48) < 10 ^ (k + 1) := by rw [Nat.pow_succ]; omega
                  have h2 : 10 ^ (k + 1) ≤ 10 ^ 5 := Nat.pow_le_pow_right (by decide) (by omega)
                  omega
                have hcs : (x1 == 48) = false ∨ ((x1 == 48) = true ∧ k = 0) := by
                  by_cases e : x1 = 48
                  · exact .inr ⟨by rw [e]; rfl, by
                      rcases Nat.eq_zero_or_pos k with h | h
                      · exact h
                      · exact absurd ⟨h, e⟩ hbad⟩
                  · exact .inl (beq_eq_false_iff_ne.2 e)
                clear hv hd hx hnk hnz hbad
                rcases hcs with hq | ⟨hq, rfl⟩
                · go_wp2
                  exact ⟨⟨z * 10 + x - 48, k + 1, rfl, by go_num, by omega, by omega, hz99, HH.out, HX2.out⟩, by simp [intOf]; omega⟩
                · obtain rfl : x1 = x := b0.symm.trans bk
                  clear bk
                  go_wp2
                  exact ⟨⟨z * 10 + x1 - 48, 1, rfl, by go_num, by omega, by omega, hz99, HH.out, HX2.out⟩, by simp [intOf]; omega⟩
            · rw [if_neg hd] at hv
              have HV := hid (HBad.out hv)
              have hor : x < 48 ∨ (48 ≤ x ∧ 57 < x) := by omega
              clear hv hd hx hnk hnz
              rcases hor with h1 | ⟨h1, h2⟩
              · go_wp2
                go_ret
                exact ⟨by rw [HV.out]; rfl, rfl⟩
              · go_wp2
                go_ret
                exact ⟨by rw [HV.out]; rfl, rfl⟩
          · obtain rfl : k = m := by omega
            obtain ⟨n, hnz, hnk, hv⟩ := HN.out
            rw [List.drop_eq_nil_of_le (by rw [HDL.out]; exact Nat.le_refl _)] at hv
            have he := HEnd.out n hv (fun h => HX.out (by omega))
            have j1 : ¬ ((k : Int) + 1 < (k : Int) + 3 - 2) := by omega
            by_cases hh : most < n
            · rw [if_pos hh] at he
              have HV := hid he
              have hh2 : (most : Int) < z := by omega
              clear hv he hnk hnz hh
              go_wp2
              go_ret
              exact ⟨by rw [HV.out]; rfl, rfl⟩
            · rw [if_neg hh, hnz] at he
              have HV := hid he
              have hh2 : z ≤ (most : Int) := by omega
              clear hv he hnk hnz hh
              go_wp2
              go_ret
              exact ⟨by rw [HV.out]; rfl, rfl⟩
      · have HV := hid (refNum_none (l := l) (most := most) (by unfold num digitsOf; rw [hsx, decide_eq_false hok]; rfl))
        have hor : (y1 == 13) = false ∨ ((y1 == 13) = true ∧ (y2 == 10) = false) := by
          by_cases h : l[m + 1] = 13
          · refine .inr ⟨by rw [hy1, h]; rfl, beq_eq_false_iff_ne.2 fun e => hok ⟨h, UInt8.toNat_inj.1 (by have : (10 : UInt8).toNat = 10 := rfl; omega)⟩⟩
          · exact .inl (beq_eq_false_iff_ne.2 fun e => h (UInt8.toNat_inj.1 (by have : (13 : UInt8).toNat = 13 := rfl; omega)))
        have i1 : (4 : Int) ≤ (m : Int) + 3 := by omega
        have i2 : (m : Int) + 3 ≤ 8 := by omega
        have i3 : (2 : Int) ≤ (m : Int) + 3 := by omega
        have i4 : (m : Int) + 3 - 2 < (m : Int) + 3 := by omega
        have i5 : (1 : Int) ≤ (m : Int) + 3 := by omega
        have i6 : (m : Int) + 3 - 1 < (m : Int) + 3 := by omega
        clear hsx hok hy1 hy2 h4 h8
        rcases hor with h1 | ⟨h1, h2⟩
        · have n1 : ¬ y1 = 13 := beq_eq_false_iff_ne.1 h1
          have n2 : (y1 != 13) = true := by simp [n1]
          clear h1
          go_enter Tryd.func32, Tryd.ntmps32
          go_wp2
          go_ret
          exact ⟨by rw [HV.out]; rfl, rfl⟩
        · obtain rfl : y1 = 13 := by simpa using h1
          have n1 : ¬ y2 = 10 := beq_eq_false_iff_ne.1 h2
          have n2 : (y2 != 10) = true := by simp [n1]
          clear h1 h2
          go_enter Tryd.func32, Tryd.ntmps32
          go_wp2
          go_ret
          exact ⟨by rw [HV.out]; rfl, rfl⟩

end Go.Proofs.YtjcegiponjpjiaaDoor
