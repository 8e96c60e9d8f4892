/- A line's number: resp.number. -/
import Derived.Test.YtjcegiponjpjiabDoorSuffix
import Derived.Lib.SlBytesConst
namespace Go.Proofs.YtjcegiponjpjiabDoor
open Go.RowKit

/-- digits read on, none above most -/
def numGo (most : Nat) : Nat → List UInt8 → Option Nat
  | n, [] => some n
  | n, d :: ds => if 48 ≤ d.toNat ∧ d.toNat ≤ 57 then (if most < n * 10 + (d.toNat - 48) then none else numGo most (n * 10 + (d.toNat - 48)) ds) else none
/-- what stands between a line's sign and its 13 10 -/
def digitsOf (l : List UInt8) : Option (List UInt8) := if Lib.hasSuffix (l.drop 1) [13, 10] then some ((l.drop 1).take (l.length - 3)) else none
/-- a line's number -/
def num (l : List UInt8) (most : Nat) : Option Nat := match digitsOf l with
  | none => none
  | some ds => if ds = [] ∨ (1 < ds.length ∧ ds.head? = some 48) then none else numGo most 0 ds
/-- what number tells -/
def numVal (l : List UInt8) (most : Nat) (wrong : Int) : Value := match num l most with
  | some n => .tuple #[.int .i64 n, .int .i64 0]
  | none => .tuple #[.int .i64 0, .int .i64 wrong]
theorem numVal_none {l : List UInt8} {most : Nat} {wrong : Int} (h : num l most = none) : numVal l most wrong = .tuple #[.int .i64 0, .int .i64 wrong] := by unfold numVal; rw [h]
theorem numVal_some {l : List UInt8} {most n : Nat} {wrong : Int} (h : num l most = some n) : numVal l most wrong = .tuple #[.int .i64 n, .int .i64 0] := by unfold numVal; rw [h]
theorem numGo_step {most n k : Nat} {ds : List UInt8} (hk : k < ds.length) : numGo most n (ds.drop k) = if 48 ≤ ds[k].toNat ∧ ds[k].toNat ≤ 57 then (if most < n * 10 + (ds[k].toNat - 48) then none else numGo most (n * 10 + (ds[k].toNat - 48)) (ds.drop (k + 1))) else none := by
  rw [List.drop_eq_getElem_cons hk]; rfl
theorem num_form {l : List UInt8} (h : Lib.hasSuffix (l.drop 1) [13, 10] = true) : ∃ ds, digitsOf l = some ds ∧ ds = (l.drop 1).take (l.length - 3) ∧ 3 ≤ l.length ∧ ds.length = l.length - 3 := by
  have := (List.isSuffixOf_iff_suffix.1 h).length_le
  simp at this
  refine ⟨_, by unfold digitsOf; rw [if_pos h], rfl, by omega, by simp; omega⟩
theorem at_two (w : World) : At (w.alloc (.cells #[.int .u8 13, .int .u8 10] 5 (2, 3))) (some ⟨w.heap.size, 0, none⟩) [13, 10] := fun _ => ⟨w.heap.size, 0, rfl, fun i hi => by
  rw [Nat.zero_add, cell_of_row _ _ _ _ _ _ (heap_alloc_new w _)]
  have : i = 0 ∨ i = 1 := by simp at hi; omega
  rcases this with rfl | rfl <;> rfl, _, _, heap_alloc_new w _⟩
set_option maxHeartbeats 2000000 in
set_option maxRecDepth 100000 in
/-- number -/
theorem number_any (p : Option Addr) (l : List UInt8) (cap most : Nat) (wrong : Int) (w : World) (hA : At w p l) (h2 : 2 ≤ l.length) (h512 : l.length ≤ 512) (hc : l.length ≤ cap) (hmost : most ≤ 1024) :
    Calls Tryd.prog 17 #[.slice p l.length cap, .int .i64 most, .int .i64 wrong] w fun e w' => e = .returned (numVal l most wrong) ∧ Below w.heap.size w w' := by
  obtain ⟨b, o, rfl⟩ := hA.plain (fun e => by rw [e] at h2; simp at h2)
  have hcap : ¬ cap = 1 := by omega
  have kc := fun (w : World) (C : Array Value) (n c : Nat) => Lib.run_convert_bytes_const (P := Tryd.prog) w 26 5 C n c Tryd.underlying26 Tryd.underlying5
  have hW := below_alloc w (.cells #[.int .u8 13, .int .u8 10] 5 (2, 3))
  have hA1 := (hA.drop 1).below hW
  have hdl : (l.drop 1).length = l.length - 1 := by simp
  have hcs := cutSuffix_any (cap - 1) 2 hA1 (at_two w) (by simp) (by omega) (by omega)
  rw [Go.WideShapes.add_plain, hdl] at hcs
  have HA1 := hid hA1
  have HW := hid hW
  clear hA hA1 hW
  cases hs : Lib.hasSuffix (l.drop 1) [13, 10]
  · rw [hs] at hcs
    have HCS := hid hcs
    have HV := hid (numVal_none (l := l) (most := most) (wrong := wrong) (by unfold num digitsOf; rw [hs]; rfl))
    clear hcs hs
    go_enter Tryd.func17, Tryd.ntmps17
    go_wp2_with fail
    refine HCS.out.mono ?_; rintro e w' ⟨rfl, rfl⟩
    go_wp2
    go_ret2
    exact ⟨by rw [HV.out]; rfl, HW.out⟩
  · obtain ⟨ds, hd1, hd2, hd3, hd4⟩ := num_form hs
    have hlen2 : l.length - 1 - [(13 : UInt8), 10].length = ds.length := by simp; omega
    rw [hs, if_pos rfl, hlen2] at hcs
    have HCS := hid hcs
    have hnum : num l most = if ds = [] ∨ (1 < ds.length ∧ ds.head? = some 48) then none else numGo most 0 ds := by unfold num; rw [hd1]
    have HDs : Hid (∀ k (hk : k < ds.length), (w.alloc (.cells #[.int .u8 13, .int .u8 10] 5 (2, 3))).cell? ⟨b, o + 1 + k, none⟩ = some (.int .u8 (ds[k].toNat : Int))) := fun k hk => by
      obtain ⟨b', o', e, hcell, _⟩ := HA1.out (fun e => by rw [e] at hdl; simp at hdl; omega)
      rw [Go.WideShapes.add_plain] at e
      injection e with e
      injection e with e1 e2
      subst e1
      subst e2
      have hk' : k < l.length - 3 := by rw [← hd4]; exact hk
      have hk2 : k < (l.drop 1).length := by rw [hdl]; omega
      rw [hcell k hk2]
      simp only [hd2, List.getElem_take]
    clear hcs hs hd1 hd2 HA1 hlen2
    have HDW : Hid (∃ W, W = w.alloc (.cells #[.int .u8 13, .int .u8 10] 5 (2, 3))) := ⟨_, rfl⟩
    obtain ⟨W, hWe⟩ := HDW.out
    rw [← hWe] at HCS HDs HW
    have hkc := kc w #[.int .u8 13, .int .u8 10] 2 2
    simp only [List.size_toArray, List.length_cons, List.length_nil, Nat.zero_add, Nat.reduceAdd] at hkc
    rw [← hWe] at hkc
    clear kc hWe HDW
    have hdl2 : ds.length ≤ 512 := by omega
    clear hd4 hd3 hdl
    by_cases h0 : ds.length = 0
    · have HV := hid (numVal_none (l := l) (most := most) (wrong := wrong) (by rw [hnum, if_pos (.inl (List.length_eq_zero_iff.1 h0))]))
      clear hnum
      go_enter Tryd.func17, Tryd.ntmps17
      go_wp2_with fail
      refine HCS.out.mono ?_; rintro e w' ⟨rfl, rfl⟩
      go_wp2
      go_ret2
      exact ⟨by rw [HV.out]; rfl, HW.out⟩
    · have hpos : 0 < ds.length := by omega
      have hc0 := HDs.out 0 hpos
      have hhd : ds.head? = some ds[0] := by cases ds with | nil => simp at hpos | cons x r => rfl
      obtain ⟨z0, hz0⟩ : ∃ z : Int, z = (ds[0].toNat : Int) := ⟨_, rfl⟩
      rw [← hz0] at hc0
      by_cases hbad : 1 < ds.length ∧ ds[0] = 48
      · have HV := hid (numVal_none (l := l) (most := most) (wrong := wrong) (by rw [hnum, if_pos (.inr ⟨hbad.1, by rw [hhd, hbad.2]⟩)]))
        obtain ⟨h1, h48⟩ := hbad
        have hz1 : z0 = 48 := by rw [hz0, h48]; rfl
        subst hz1
        clear hnum hhd h48 hz0
        go_enter Tryd.func17, Tryd.ntmps17
        go_wp2_with fail
        refine HCS.out.mono ?_; rintro e w' ⟨rfl, rfl⟩
        go_wp2
        go_ret2
        exact ⟨by rw [HV.out]; rfl, HW.out⟩
      · have HN := hid (show num l most = numGo most 0 ds by
          rw [hnum, if_neg]
          rintro (h | ⟨h, h'⟩)
          · exact h0 (by rw [h]; rfl)
          · rw [hhd] at h'
            exact hbad ⟨h, by injection h'⟩)
        have hor : ¬ 1 < ds.length ∨ (1 < ds.length ∧ ¬ z0 = 48) := by
          by_cases h1 : 1 < ds.length
          · exact .inr ⟨h1, fun e => hbad ⟨h1, UInt8.toNat_inj.1 (by have : (48 : UInt8).toNat = 48 := rfl; omega)⟩⟩
          · exact .inl h1
        have HOr := hid hor
        clear hnum hhd hz0 hbad hor
        go_enter Tryd.func17, Tryd.ntmps17
        go_wp2_with fail
        refine HCS.out.mono ?_; rintro e w' ⟨rfl, rfl⟩
        have HWs := hid HDs.out
        rcases HOr.out with h1 | ⟨h1, h48⟩
        case' inr => have hq1 : (z0 == 48) = false := beq_eq_false_iff_ne.2 h48
        all_goals
          have hq0 : ((ds.length : Int) == 0) = false := beq_eq_false_iff_ne.2 (by omega)
          go_wp2
          go_loop [10, 42] (fun v10 v42 => ∃ n k : Nat, v10 = .int .i64 n ∧ v42 = .int .i64 k ∧ k ≤ ds.length ∧ n ≤ most ∧ Hid (numGo most 0 ds = numGo most n (ds.drop k))) (fun _ v42 => ds.length - (intOf v42).toNat)
          case atStart => exact ⟨0, 0, rfl, rfl, Nat.zero_le _, Nat.zero_le _, by unfold Hid; rw [List.drop_zero]⟩
          case round =>
            obtain ⟨n, k, rfl, rfl, hk1, hn, HG⟩ := hrel
            by_cases hk : k < ds.length
            · have ck := HDs.out k hk
              have hst := HG.out.trans (numGo_step hk)
              generalize ds[k] = c at ck hst
              obtain ⟨z, hz⟩ : ∃ z : Int, z = (c.toNat : Int) := ⟨_, rfl⟩
              rw [← hz] at ck
              by_cases hd : 48 ≤ c.toNat ∧ c.toNat ≤ 57
              · rw [if_pos hd] at hst
                have hz1 : 48 ≤ z := by omega
                have hz2 : z ≤ 57 := by omega
                by_cases hm : most < n * 10 + (c.toNat - 48)
                · rw [if_pos hm] at hst
                  have HV := hid (numVal_none (l := l) (most := most) (wrong := wrong) (HN.out.trans hst))
                  have hm2 : (most : Int) < (n : Int) * 10 + (z - 48) := by omega
                  clear hst hd hm hz
                  go_wp2
                  go_ret2
                  exact ⟨by rw [HV.out]; rfl, HW.out⟩
                · rw [if_neg hm] at hst
                  have HH := hid (And.intro hst (And.intro hz hd))
                  have hm2 : (n : Int) * 10 + (z - 48) ≤ (most : Int) := by omega
                  clear hst hd hm hz
                  go_wp2
                  obtain ⟨hst, hz, hd⟩ := HH.out
                  exact ⟨⟨n * 10 + (c.toNat - 48), k + 1, by congr 1; omega, by go_num, by omega, by omega, hst⟩, by simp [intOf]; omega⟩
              · rw [if_neg hd] at hst
                have HV := hid (numVal_none (l := l) (most := most) (wrong := wrong) (HN.out.trans hst))
                have hz12 : z < 48 ∨ (48 ≤ z ∧ 57 < z) := by omega
                clear hst hd hz
                rcases hz12 with hz1 | ⟨hz1, hz2⟩
                all_goals
                  go_wp2
                  go_ret2
                  exact ⟨by rw [HV.out]; rfl, HW.out⟩
            · have he : ds.drop k = [] := List.drop_eq_nil_of_le (by omega)
              have hst := HG.out
              rw [he] at hst
              have HV := hid (numVal_some (l := l) (most := most) (wrong := wrong) (HN.out.trans hst))
              clear hst he
              go_wp2
              go_ret2
              exact ⟨by rw [HV.out]; rfl, HW.out⟩

end Go.Proofs.YtjcegiponjpjiabDoor
