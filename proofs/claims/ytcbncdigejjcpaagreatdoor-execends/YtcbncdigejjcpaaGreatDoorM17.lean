/- TbGreat, TbFind, TbRFind, TbChk, TbRCheck. -/
import Derived.Lib.ConvBytes
import Derived.WalkLawsBesides
import Derived.Test.YtcbncdigejjcpaaGreatDoorM14
namespace Go.Proofs.YtcbncdigejjcpaaGreatDoor.Tb
open Go.RowKit

/-- a block of bytes that a conversion laid -/
def Byt (w : World) (g : Nat) (l : Nm) : Prop := ∃ (C : Array Value) (lo : Nat), w.heap[g]? = some (.cells C 5 (lo, lo + 1)) ∧ l.length ≤ lo ∧ ∀ i (h : i < l.length), C[i]? = some (.int .u8 (l[i].toNat : Int))
theorem Byt.cell {w : World} {g : Nat} {l : Nm} (h : Byt w g l) (i : Nat) (hi : i < l.length) : w.cell? ⟨g, i, none⟩ = some (.int .u8 (l[i].toNat : Int)) := by
  obtain ⟨C, lo, h1, h2, h3⟩ := h
  rw [cell_of_row _ _ _ _ _ _ h1]
  exact h3 i hi
theorem Byt.frozen {w : World} {g : Nat} {l : Nm} (h : Byt w g l) (i : Nat) (hi : i < l.length) : w.frozen? ⟨g, i, none⟩ = false := by
  obtain ⟨C, lo, h1, h2, h3⟩ := h
  have : ¬ lo ≤ i := by omega
  simp [World.frozen?, h1, this]
theorem Byt.set {w : World} {g : Nat} {l : Nm} (h : Byt w g l) (i : Nat) (c : UInt8) : Byt (w.setCell ⟨g, i, none⟩ (.int .u8 (c.toNat : Int))) g (l.set i c) := by
  obtain ⟨C, lo, h1, h2, h3⟩ := h
  refine ⟨C.setIfInBounds i (.int .u8 (c.toNat : Int)), lo, ?_, by simpa using h2, fun j hj => ?_⟩
  · have hg : g < w.heap.size := (Array.getElem?_eq_some_iff.1 h1).1
    have h1' := (Array.getElem?_eq_some_iff.1 h1).2
    simp only [World.setCell, Array.getElem?_eq_getElem (Nat.lt_of_lt_of_eq hg (Array.size_modify ..).symm)]
    rw [Array.getElem_modify_self, h1']
    rfl
  · rw [List.length_set] at hj
    have hC := h3 j hj
    have hjC : j < C.size := (Array.getElem?_eq_some_iff.1 hC).1
    by_cases e : i = j
    · subst e
      simp [hjC]
    · rw [Array.getElem?_setIfInBounds_ne e, hC]
      simp [e]
theorem Byt.keep {w w' : World} {g : Nat} {l : Nm} (h : Byt w g l) (hk : w'.heap[g]? = w.heap[g]?) : Byt w' g l := by
  obtain ⟨C, lo, h1, h2⟩ := h
  exact ⟨C, lo, hk.trans h1, h2⟩
theorem Byt.lt {w : World} {g : Nat} {l : Nm} (h : Byt w g l) : g < w.heap.size := by
  obtain ⟨C, lo, h1, h2⟩ := h
  exact (Array.getElem?_eq_some_iff.1 h1).1
/-- a text made bytes -/
theorem conv_any (l : Nm) (w : World) : ∃ cap W, (convert 9 104 (txt l)).run Tryz.prog w = .ok (.slice (some ⟨w.heap.size, 0, none⟩) l.length cap) W ∧ Byt W w.heap.size l ∧ Below w.heap.size w W ∧ l.length ≤ cap := by
  have hr := Lib.run_convert_string_bytes (P := Tryz.prog) w 9 104 5 ⟨l.toArray⟩ Tryz.underlying9 Tryz.underlying104 Tryz.underlying5
  have hsz : (⟨l.toArray⟩ : ByteArray).size = l.length := by simp [ByteArray.size]
  refine ⟨_, _, by rw [hr, hsz], ⟨_, _, Lib.bytesWorld_at_new _ _ _, ?_, fun i hi => ?_⟩, ?_, ?_⟩
  · simp [Lib.bytesCells]
  · simp [Lib.bytesCells, Array.getElem?_append, hi]
  · exact ⟨rfl, rfl, rfl, by rw [Lib.bytesWorld_size]; omega, fun k hk => Lib.bytesWorld_at_old _ _ _ k hk⟩
  · exact grownCap_ge _ _ _ _
/-- and back -/
theorem back_any {W : World} {g : Nat} {l : Nm} (h : Byt W g l) (cap : Nat) : (convert 104 9 (.slice (some ⟨g, 0, none⟩) l.length cap)).run Tryz.prog W = .ok (txt l) W :=
  run_convert_bytes_back (P := Tryz.prog) W 104 9 5 ⟨g, 0, none⟩ cap l Tryz.underlying104 Tryz.underlying5 Tryz.underlying9 (fun j hj => by
    rw [Go.WideShapes.add_plain, Nat.zero_add]
    exact h.cell j hj)
/-- the first i letters made great -/
def upTo (i : Nat) (l : Nm) : Nm := great (l.take i) ++ l.drop i
theorem upTo_len (i : Nat) (l : Nm) : (upTo i l).length = l.length := by simp [upTo, great]; omega
theorem upTo_at {i : Nat} {l : Nm} (h : i < l.length) : (upTo i l)[i]'(by rw [upTo_len]; exact h) = l[i] := by
  have hm : min i l.length = i := by omega
  simp [upTo, great, hm]
theorem upTo_same {i : Nat} {l : Nm} (h : i < l.length) (hc : up l[i] = l[i]) : upTo (i + 1) l = upTo i l := by
  unfold upTo great
  rw [List.take_succ_eq_append_getElem h, List.drop_eq_getElem_cons h, List.map_append, List.append_assoc]
  simp [hc]
theorem upTo_set {i : Nat} {l : Nm} (h : i < l.length) : upTo (i + 1) l = (upTo i l).set i (up l[i]) := by
  unfold upTo great
  have hm : min i l.length = i := by omega
  have hd : l.drop i = l[i] :: l.drop (i + 1) := List.drop_eq_getElem_cons h
  rw [List.take_succ_eq_append_getElem h, List.map_append, List.append_assoc, List.set_append_right _ _ (by simp [hm])]
  simp [hm]
  rw [hd, List.set_cons_zero]
theorem upTo_all (l : Nm) : upTo l.length l = great l := by simp [upTo]
theorem up_small (c : UInt8) (h1 : 97 ≤ (c.toNat : Int)) (h2 : (c.toNat : Int) ≤ 122) : ((up c).toNat : Int) = (c.toNat : Int) - 97 + 65 := by
  have k1 : 97 ≤ c := UInt8.le_iff_toNat_le.2 (by simpa using (by omega : 97 ≤ c.toNat))
  have k2 : c ≤ 122 := UInt8.le_iff_toNat_le.2 (by simpa using (by omega : c.toNat ≤ 122))
  rw [up, if_pos ⟨k1, k2⟩, UInt8.toNat_sub_of_le _ _ (UInt8.le_iff_toNat_le.2 (by simpa using (by omega : 32 ≤ c.toNat)))]
  simp
  omega
theorem up_else (c : UInt8) (h : ¬ (97 ≤ (c.toNat : Int) ∧ (c.toNat : Int) ≤ 122)) : up c = c := by
  rw [up, if_neg]
  rintro ⟨k1, k2⟩
  have k1 := UInt8.le_iff_toNat_le.1 k1
  have k2 := UInt8.le_iff_toNat_le.1 k2
  simp at k1 k2
  omega
set_option maxHeartbeats 4000000 in
set_option maxRecDepth 100000 in
theorem great_any (l : Nm) (w : World) (hl : l.length ≤ 9223372036854775807) : Calls Tryz.prog 66 #[txt l] w fun e w' => e = .returned (txt (great l)) ∧ Hid (Below w.heap.size w w') := by
  obtain ⟨cap, W0, hconv, hB0, hW0, hcap⟩ := conv_any l w
  have HB0 := hid hB0
  have HW0 := hid hW0
  have hlz : (l.length : Int) ≤ 9223372036854775807 := by omega
  clear hB0 hW0
  go_enter Tryz.func66, Tryz.ntmps66
  go_wp2_with fail
  go_loopw [10] (fun v10 W => ∃ i : Nat, v10 = .int .i64 i ∧ i ≤ l.length ∧ Hid (Byt W w.heap.size (upTo i l)) ∧ Hid (Below w.heap.size w W)) (fun v10 _ => l.length - (intOf v10).toNat)
  case atStart => exact ⟨0, rfl, Nat.zero_le _, by simpa [Hid, upTo, great] using HB0.out, HW0.out⟩
  case round =>
    obtain ⟨i, rfl, hi, HB, HW⟩ := hrel
    by_cases hlt : i < l.length
    · have hiz : (i : Int) < (l.length : Int) := by omega
      have x0 := HB.out.cell i (by rw [upTo_len]; exact hlt)
      rw [upTo_at hlt] at x0
      have hf := HB.out.frozen i (by rw [upTo_len]; exact hlt)
      have Hup := hid (up_small l[i])
      have Hel := hid (up_else l[i])
      have HS := hid (HB.out.set i (up l[i]))
      rw [← upTo_set hlt] at HS
      have HW2 := hid (HW.out.setCell (p := ⟨w.heap.size, i, none⟩) (Nat.le_refl _) (.int .u8 ((up l[i]).toNat : Int)))
      have Hsame := hid (upTo_same hlt)
      have hz0 : 0 ≤ (l[i].toNat : Int) := by omega
      have hz1 : (l[i].toNat : Int) ≤ 255 := by have := UInt8.toNat_lt l[i]; omega
      generalize l[i] = c at *
      by_cases hr : 97 ≤ (c.toNat : Int) ∧ (c.toNat : Int) ≤ 122
      · obtain ⟨h1, h2⟩ := hr
        have hup := Hup.out h1 h2
        rw [hup] at HS HW2
        clear Hup Hel hup Hsame hconv
        generalize (c.toNat : Int) = z at *
        go_wp2_with fail
        exact ⟨⟨i + 1, by go_num, by omega, HS.out, HW2.out⟩, by simp [intOf]; omega⟩
      · have hs := Hsame.out (Hel.out hr)
        have HB2 : Hid (Byt wr w.heap.size (upTo (i + 1) l)) := by rw [hs]; exact HB
        clear Hup Hel Hsame hconv hs HS HW2
        generalize (c.toNat : Int) = z at *
        by_cases h1 : 97 ≤ z
        · have h2 : 122 < z := by omega
          go_wp2_with fail
          exact ⟨⟨i + 1, by go_num, by omega, HB2.out, HW.out⟩, by simp [intOf]; omega⟩
        · have h2 : z < 97 := by omega
          go_wp2_with fail
          exact ⟨⟨i + 1, by go_num, by omega, HB2.out, HW.out⟩, by simp [intOf]; omega⟩
    · obtain rfl : i = l.length := by omega
      have hbk := back_any HB.out cap
      rw [upTo_len, upTo_all] at hbk
      go_wp2_with fail
      go_ret
      exact ⟨rfl, HW.out⟩

end Go.Proofs.YtcbncdigejjcpaaGreatDoor.Tb

namespace Go.Proofs.YtcbncdigejjcpaaGreatDoor.Tb
open Go.RowKit

theorem index_rows (i : Nat) (h : i < rowsL.length) (w : World) : (Instr.index 108 (.agg rowCells) (.int .i64 i)).run Tryz.prog w = .ok (.agg rowsL[i].cs) w :=
  match i, h with
  | 0, _ => by kernel_rfl
  | 1, _ => by kernel_rfl
  | 2, _ => by kernel_rfl
  | 3, _ => by kernel_rfl
  | 4, _ => by kernel_rfl
  | 5, _ => by kernel_rfl
  | 6, _ => by kernel_rfl
  | 7, _ => by kernel_rfl
  | 8, _ => by kernel_rfl
  | 9, _ => by kernel_rfl
  | 10, _ => by kernel_rfl
  | 11, _ => by kernel_rfl
  | 12, _ => by kernel_rfl
  | 13, _ => by kernel_rfl
  | 14, _ => by kernel_rfl
  | 15, _ => by kernel_rfl
  | 16, _ => by kernel_rfl
  | 17, _ => by kernel_rfl
  | 18, _ => by kernel_rfl
  | 19, _ => by kernel_rfl
  | 20, _ => by kernel_rfl
  | 21, _ => by kernel_rfl
  | 22, _ => by kernel_rfl
  | 23, _ => by kernel_rfl
  | 24, _ => by kernel_rfl
  | 25, _ => by kernel_rfl
  | 26, _ => by kernel_rfl
  | 27, _ => by kernel_rfl
  | 28, _ => by kernel_rfl
  | 29, _ => by kernel_rfl
  | 30, _ => by kernel_rfl
  | 31, _ => by kernel_rfl
  | 32, _ => by kernel_rfl
  | 33, _ => by kernel_rfl
  | 34, _ => by kernel_rfl
  | 35, _ => by kernel_rfl
  | 36, _ => by kernel_rfl
  | 37, _ => by kernel_rfl
  | 38, _ => by kernel_rfl
  | 39, _ => by kernel_rfl
  | 40, _ => by kernel_rfl
  | 41, _ => by kernel_rfl
  | 42, _ => by kernel_rfl
  | 43, _ => by kernel_rfl
  | 44, _ => by kernel_rfl
  | 45, _ => by kernel_rfl
  | 46, _ => by kernel_rfl
  | 47, _ => by kernel_rfl
  | n + 48, h => absurd h (by rw [rowsL_len]; omega)
theorem info_sp (s : Sp) : (Tryz.prog.info? 37).map (·.size) = some s.cs.size := by
  have : (Tryz.prog.info? 37).map (·.size) = some 7 := by kernel_rfl
  rw [this]; rfl
theorem ones_sp (s : Sp) : s.cs.all (·.oneCell') = true := by simp [Sp.cs, Value.oneCell']
theorem ret_sp2 {fn : Func} {p q : Tmp} (h : fn.results = #[.cell p 37, .tmp q]) {tmps : Array Value} {w : World} {b : Nat} {s : Sp} {v : Value} (hp : tmps.getD p undef = .pointer (some ⟨b, 0, none⟩)) (hq : tmps.getD q undef = v) (hB : w.heap[b]? = some (.cells s.cs 37 (0, 0))) :
    (results fn tmps).run Tryz.prog w = .ok (.tuple #[.agg s.cs, v]) w := by
  have hp' : tmps[p]?.getD undef = .pointer (some ⟨b, 0, none⟩) := by simpa using hp
  have hq' : tmps[q]?.getD undef = v := by simpa using hq
  simp [results, h, hp', hq', asAddr, run_loadVar_row w b 37 37 s.cs (0, 0) _ hB Tryz.underlying37 rfl (info_sp s)]
set_option maxHeartbeats 4000000 in
set_option maxRecDepth 100000 in
/-- Find -/
theorem find_any (l : Nm) (w : World) (hl : l.length ≤ 9223372036854775807) : Calls Tryz.prog 41 #[txt l] w fun e w' => e = .returned (.tuple #[.agg (spec (great l)).cs, .bool (known (great l))]) ∧ Hid (Below w.heap.size w w') := by
  have HG : Hid (∀ w, Calls Tryz.prog 66 #[txt l] w fun e w' => e = .returned (txt (great l)) ∧ Hid (Below w.heap.size w w')) := fun w => great_any l w hl
  generalize great l = g at *
  have hidx := index_rows (place g) (place_lt g)
  rw [← spec_eq] at hidx
  have HK : Hid (known g = decide (place g ≠ 0)) := rfl
  have H1 := hid (place_any g)
  generalize spec g = s at *
  generalize known g = kn at *
  generalize place g = k at *
  go_enter Tryz.func41, Tryz.ntmps41
  go_wp2_with fail
  refine (HG.out _).mono ?_
  rintro _ W1 ⟨rfl, HW1⟩
  have h0 : W1.heap[w.heap.size]? = some (.cells zeroSp.cs 37 (0, 0)) := (HW1.out.block w.heap.size (by simp)).trans (heap_alloc_new _ _)
  have HB1 : Hid (Below w.heap.size w W1) := (below_alloc _ _).trans (HW1.out.mono (by simp))
  have hs1 : w.heap.size + 1 ≤ W1.heap.size := by have := HW1.out.size; simpa using this
  have H0 := hid h0
  clear h0
  go_wp2_with fail
  refine (H1.out _).mono ?_
  rintro _ _ ⟨rfl, rfl⟩
  go_wp2_with fail
  refine (rows_any _).mono ?_
  rintro _ W2 ⟨rfl, HW2⟩
  have H02 := hid ((HW2.out.block w.heap.size (by omega)).trans H0.out)
  have HB2 := hid (HB1.out.trans (HW2.out.mono (by omega)))
  have HR := hid (setRow_heap W2 w.heap.size _ s.cs _ _ H02.out)
  have HB3 := hid (below_setRow HB2.out (Nat.le_refl _) s.cs)
  clear H1
  generalize rowCells = RC at *
  have hkz : ((k : Int) != 0) = kn := by
    rw [HK.out]
    by_cases hk : k = 0
    · subst hk; rfl
    · rw [decide_eq_true hk]; simpa using hk
  clear HK
  generalize (k : Int) = z at *
  go_wp2_with (refine Go.wpList_store_rowTo rfl 37 _ _ rfl rfl w.heap.size s.cs rfl rfl 37 zeroSp.cs H02.out (info_sp s) rfl (ones_sp s) (Hid.out ?_))
  refine hid ?_
  go_wp2_with fail
  exact bodyPost_ret (v := .tuple #[.agg s.cs, .bool kn]) (ret_sp2 rfl rfl rfl HR.out) rfl ⟨rfl, HB3.out⟩
theorem tri (z : Int) : z < 97 ∨ (97 ≤ z ∧ z ≤ 122) ∨ 122 < z := by omega
/-- a letter made great, as numbers -/
theorem up_num (c : UInt8) : ((up c).toNat : Int) = if 97 ≤ (c.toNat : Int) ∧ (c.toNat : Int) ≤ 122 then (c.toNat : Int) - 32 else (c.toNat : Int) := by
  split
  · rename_i h
    rw [up_small c h.1 h.2]; omega
  · rename_i h
    rw [up_else c h]
set_option maxHeartbeats 4000000 in
set_option maxRecDepth 100000 in
/-- the document's Alike -/
theorem alike_any (a b : Nm) (w : World) (hl : a.length ≤ 9223372036854775807) (hb : b.length ≤ 9223372036854775807) : Calls Tryz.prog 62 #[txt a, txt b] w fun e w' => e = .returned (.bool (great a == great b)) ∧ w' = w := by
  obtain ⟨V, hV⟩ : ∃ V, V = (great a == great b) := ⟨_, rfl⟩
  rw [← hV]
  have HV := hid hV
  have hlz : (a.length : Int) ≤ 9223372036854775807 := by omega
  have hbz : (b.length : Int) ≤ 9223372036854775807 := by omega
  clear hV
  by_cases hlen : a.length = b.length
  · have HL := hid hlen
    have hne : ((a.length : Int) != (b.length : Int)) = false := by simp [hlen]
    clear hlen
    go_enter Tryz.func62, Tryz.ntmps62
    go_wp2_with fail
    go_loopw [5] (fun v5 W => ∃ i : Nat, v5 = .int .i64 i ∧ i ≤ a.length ∧ Hid (great (a.take i) = great (b.take i)) ∧ W = w) (fun v5 _ => a.length - (intOf v5).toNat)
    case atStart => exact ⟨0, rfl, Nat.zero_le _, rfl, rfl⟩
    case round =>
      obtain ⟨i, rfl, hi, HI, rfl⟩ := hrel
      by_cases hlt : i < a.length
      · have hlt2 : i < b.length := by have := HL.out; omega
        have hiz : (i : Int) < (a.length : Int) := by omega
        have hiz2 : (i : Int) < (b.length : Int) := by omega
        have HT : Hid (great (a.take (i + 1)) = great (b.take (i + 1)) ↔ up a[i] = up b[i]) := by
          have := HI.out
          unfold great at this ⊢
          rw [Hid, List.take_succ_eq_append_getElem hlt, List.take_succ_eq_append_getElem hlt2, List.map_append, List.map_append, this]
          simp
        have HF : Hid (up a[i] ≠ up b[i] → V = false) := fun hne => by
          rw [HV.out]
          refine beq_eq_false_iff_ne.2 fun e => hne ?_
          have h1 : (great a)[i]'(by simp [great, hlt]) = (great b)[i]'(by simp [great, hlt2]) := by simp only [e]
          simpa [great] using h1
        obtain ⟨zx, hzx⟩ : ∃ z : Int, z = (a[i].toNat : Int) := ⟨_, rfl⟩
        obtain ⟨zy, hzy⟩ : ∃ z : Int, z = (b[i].toNat : Int) := ⟨_, rfl⟩
        have hx : ∀ h, (((⟨a.toArray⟩ : ByteArray)[i]'h).toNat : Int) = zx := fun _ => hzx.symm
        have hy : ∀ h, (((⟨b.toArray⟩ : ByteArray)[i]'h).toNat : Int) = zy := fun _ => hzy.symm
        have hx0 : 0 ≤ zx := by omega
        have hy0 : 0 ≤ zy := by omega
        have hx9 : zx ≤ 255 := by have := UInt8.toNat_lt a[i]; omega
        have hy9 : zy ≤ 255 := by have := UInt8.toNat_lt b[i]; omega
        have Hu := hid (up_num a[i])
        have Hv := hid (up_num b[i])
        have Heq : Hid (up a[i] = up b[i] ↔ ((up a[i]).toNat : Int) = ((up b[i]).toNat : Int)) := ⟨fun e => by rw [e], fun e => UInt8.toNat_inj.1 (by omega)⟩
        rw [← hzx] at Hu
        rw [← hzy] at Hv
        clear hzx hzy
        generalize up a[i] = x at *
        generalize up b[i] = y at *

        rcases tri zx with hx1 | ⟨hx1, hx2⟩ | hx1 <;> rcases tri zy with hy1 | ⟨hy1, hy2⟩ | hy1
        · have e1 : (x.toNat : Int) = zx := by rw [Hu.out, if_neg (by omega)]
          have e2 : (y.toNat : Int) = zy := by rw [Hv.out, if_neg (by omega)]
          rw [e1, e2] at Heq
          clear e1 e2 Hu Hv
          by_cases e : x = y
          · have hq : ((zx) != (zy)) = false := by rw [bne_eq_false_iff_eq]; exact Heq.out.1 e
            have HT2 := hid (HT.out.2 e)
            clear e Heq HT HF
            go_wp2_with fail
            exact ⟨⟨i + 1, by go_num, by omega, HT2.out, trivial⟩, by simp [intOf]; omega⟩
          · have hq : ((zx) != (zy)) = true := by rw [bne_iff_ne]; exact fun h => e (Heq.out.2 h)
            obtain rfl := HF.out e
            clear e Heq HT HF
            go_wp2_with fail
            go_ret
            exact ⟨rfl, rfl⟩
        · have e1 : (x.toNat : Int) = zx := by rw [Hu.out, if_neg (by omega)]
          have e2 : (y.toNat : Int) = zy - 32 := by rw [Hv.out, if_pos ⟨hy1, hy2⟩]
          rw [e1, e2] at Heq
          clear e1 e2 Hu Hv
          by_cases e : x = y
          · have hq : ((zx) != (zy - 32)) = false := by rw [bne_eq_false_iff_eq]; exact Heq.out.1 e
            have HT2 := hid (HT.out.2 e)
            clear e Heq HT HF
            go_wp2_with fail
            exact ⟨⟨i + 1, by go_num, by omega, HT2.out, trivial⟩, by simp [intOf]; omega⟩
          · have hq : ((zx) != (zy - 32)) = true := by rw [bne_iff_ne]; exact fun h => e (Heq.out.2 h)
            obtain rfl := HF.out e
            clear e Heq HT HF
            go_wp2_with fail
            go_ret
            exact ⟨rfl, rfl⟩
        · have e1 : (x.toNat : Int) = zx := by rw [Hu.out, if_neg (by omega)]
          have e2 : (y.toNat : Int) = zy := by rw [Hv.out, if_neg (by omega)]
          rw [e1, e2] at Heq
          clear e1 e2 Hu Hv
          by_cases e : x = y
          · have hq : ((zx) != (zy)) = false := by rw [bne_eq_false_iff_eq]; exact Heq.out.1 e
            have HT2 := hid (HT.out.2 e)
            clear e Heq HT HF
            go_wp2_with fail
            exact ⟨⟨i + 1, by go_num, by omega, HT2.out, trivial⟩, by simp [intOf]; omega⟩
          · have hq : ((zx) != (zy)) = true := by rw [bne_iff_ne]; exact fun h => e (Heq.out.2 h)
            obtain rfl := HF.out e
            clear e Heq HT HF
            go_wp2_with fail
            go_ret
            exact ⟨rfl, rfl⟩
        · have e1 : (x.toNat : Int) = zx - 32 := by rw [Hu.out, if_pos ⟨hx1, hx2⟩]
          have e2 : (y.toNat : Int) = zy := by rw [Hv.out, if_neg (by omega)]
          rw [e1, e2] at Heq
          clear e1 e2 Hu Hv
          by_cases e : x = y
          · have hq : ((zx - 32) != (zy)) = false := by rw [bne_eq_false_iff_eq]; exact Heq.out.1 e
            have HT2 := hid (HT.out.2 e)
            clear e Heq HT HF
            go_wp2_with fail
            exact ⟨⟨i + 1, by go_num, by omega, HT2.out, trivial⟩, by simp [intOf]; omega⟩
          · have hq : ((zx - 32) != (zy)) = true := by rw [bne_iff_ne]; exact fun h => e (Heq.out.2 h)
            obtain rfl := HF.out e
            clear e Heq HT HF
            go_wp2_with fail
            go_ret
            exact ⟨rfl, rfl⟩
        · have e1 : (x.toNat : Int) = zx - 32 := by rw [Hu.out, if_pos ⟨hx1, hx2⟩]
          have e2 : (y.toNat : Int) = zy - 32 := by rw [Hv.out, if_pos ⟨hy1, hy2⟩]
          rw [e1, e2] at Heq
          clear e1 e2 Hu Hv
          by_cases e : x = y
          · have hq : ((zx - 32) != (zy - 32)) = false := by rw [bne_eq_false_iff_eq]; exact Heq.out.1 e
            have HT2 := hid (HT.out.2 e)
            clear e Heq HT HF
            go_wp2_with fail
            exact ⟨⟨i + 1, by go_num, by omega, HT2.out, trivial⟩, by simp [intOf]; omega⟩
          · have hq : ((zx - 32) != (zy - 32)) = true := by rw [bne_iff_ne]; exact fun h => e (Heq.out.2 h)
            obtain rfl := HF.out e
            clear e Heq HT HF
            go_wp2_with fail
            go_ret
            exact ⟨rfl, rfl⟩
        · have e1 : (x.toNat : Int) = zx - 32 := by rw [Hu.out, if_pos ⟨hx1, hx2⟩]
          have e2 : (y.toNat : Int) = zy := by rw [Hv.out, if_neg (by omega)]
          rw [e1, e2] at Heq
          clear e1 e2 Hu Hv
          by_cases e : x = y
          · have hq : ((zx - 32) != (zy)) = false := by rw [bne_eq_false_iff_eq]; exact Heq.out.1 e
            have HT2 := hid (HT.out.2 e)
            clear e Heq HT HF
            go_wp2_with fail
            exact ⟨⟨i + 1, by go_num, by omega, HT2.out, trivial⟩, by simp [intOf]; omega⟩
          · have hq : ((zx - 32) != (zy)) = true := by rw [bne_iff_ne]; exact fun h => e (Heq.out.2 h)
            obtain rfl := HF.out e
            clear e Heq HT HF
            go_wp2_with fail
            go_ret
            exact ⟨rfl, rfl⟩
        · have e1 : (x.toNat : Int) = zx := by rw [Hu.out, if_neg (by omega)]
          have e2 : (y.toNat : Int) = zy := by rw [Hv.out, if_neg (by omega)]
          rw [e1, e2] at Heq
          clear e1 e2 Hu Hv
          by_cases e : x = y
          · have hq : ((zx) != (zy)) = false := by rw [bne_eq_false_iff_eq]; exact Heq.out.1 e
            have HT2 := hid (HT.out.2 e)
            clear e Heq HT HF
            go_wp2_with fail
            exact ⟨⟨i + 1, by go_num, by omega, HT2.out, trivial⟩, by simp [intOf]; omega⟩
          · have hq : ((zx) != (zy)) = true := by rw [bne_iff_ne]; exact fun h => e (Heq.out.2 h)
            obtain rfl := HF.out e
            clear e Heq HT HF
            go_wp2_with fail
            go_ret
            exact ⟨rfl, rfl⟩
        · have e1 : (x.toNat : Int) = zx := by rw [Hu.out, if_neg (by omega)]
          have e2 : (y.toNat : Int) = zy - 32 := by rw [Hv.out, if_pos ⟨hy1, hy2⟩]
          rw [e1, e2] at Heq
          clear e1 e2 Hu Hv
          by_cases e : x = y
          · have hq : ((zx) != (zy - 32)) = false := by rw [bne_eq_false_iff_eq]; exact Heq.out.1 e
            have HT2 := hid (HT.out.2 e)
            clear e Heq HT HF
            go_wp2_with fail
            exact ⟨⟨i + 1, by go_num, by omega, HT2.out, trivial⟩, by simp [intOf]; omega⟩
          · have hq : ((zx) != (zy - 32)) = true := by rw [bne_iff_ne]; exact fun h => e (Heq.out.2 h)
            obtain rfl := HF.out e
            clear e Heq HT HF
            go_wp2_with fail
            go_ret
            exact ⟨rfl, rfl⟩
        · have e1 : (x.toNat : Int) = zx := by rw [Hu.out, if_neg (by omega)]
          have e2 : (y.toNat : Int) = zy := by rw [Hv.out, if_neg (by omega)]
          rw [e1, e2] at Heq
          clear e1 e2 Hu Hv
          by_cases e : x = y
          · have hq : ((zx) != (zy)) = false := by rw [bne_eq_false_iff_eq]; exact Heq.out.1 e
            have HT2 := hid (HT.out.2 e)
            clear e Heq HT HF
            go_wp2_with fail
            exact ⟨⟨i + 1, by go_num, by omega, HT2.out, trivial⟩, by simp [intOf]; omega⟩
          · have hq : ((zx) != (zy)) = true := by rw [bne_iff_ne]; exact fun h => e (Heq.out.2 h)
            obtain rfl := HF.out e
            clear e Heq HT HF
            go_wp2_with fail
            go_ret
            exact ⟨rfl, rfl⟩
      · obtain rfl : V = true := by
          rw [HV.out, beq_iff_eq]
          have := HI.out
          rwa [List.take_of_length_le (by omega), List.take_of_length_le (by have := HL.out; omega)] at this
        go_wp2_with fail
        go_ret
        exact ⟨rfl, rfl⟩
  · obtain rfl : V = false := by
      rw [HV.out]
      refine beq_eq_false_iff_ne.2 fun e => hlen ?_
      have := congrArg List.length e
      simpa [great] using this
    have hne : ((a.length : Int) != (b.length : Int)) = true := by
      rw [bne_iff_ne]; omega
    clear hlen
    go_enter Tryz.func62, Tryz.ntmps62
    go_wp2_with fail
    go_ret
    exact ⟨rfl, rfl⟩

end Go.Proofs.YtcbncdigejjcpaaGreatDoor.Tb

namespace Go.Proofs.YtcbncdigejjcpaaGreatDoor.Tb
open Go.RowKit

theorem place_found {g : Nm} {i : Nat} (h : i < allL.length) (hn : allL[i].nm = g) (hf : ∀ j (hj : j < i), allL[j].nm ≠ g) : spec g = allL[i] ∧ known g = true := by
  have : allL.findIdx? (fun s => s.nm == g) = some i := by
    rw [List.findIdx?_eq_some_iff_getElem]
    exact ⟨h, by simpa using hn, fun j hj => by simpa using hf j hj⟩
  have hp : place g = i + 1 := by unfold place; rw [this]
  refine ⟨?_, by unfold known; rw [hp]; simp⟩
  unfold spec
  rw [hp]
  simp [rowsL, h]
theorem all_cell {w : World} {b : Nat} {t : TypeId} (h : w.heap[b]? = some (.cells allCells t (0, 0))) (i j : Nat) (hi : i < allL.length) (hj : j < 7) : w.cell? ⟨b, i * 7 + j, none⟩ = allL[i].cl[j]? := by
  rw [cell_of_row _ _ _ _ _ _ h, ← flat_get allL i j hi hj]
  simp [allCells]
theorem nm_len : ∀ s ∈ allL, s.nm.length ≤ 9 := by decide
/-- the i-th name -/
def nmAt (i : Nat) : Nm := (allL[i]?.map Sp.nm).getD []
theorem nmAt_eq {i : Nat} (h : i < allL.length) : nmAt i = allL[i].nm := by simp [nmAt, h]
/-- what a round finds -/
theorem each (l : Nm) (hl : l.length ≤ 9223372036854775807) {w : World} {b : Nat} (hC : w.heap[b]? = some (.cells allCells 37 (0, 0))) (i : Nat) (hi : i < 47) :
    ∃ nm le mo fi la st wr, nmAt i = nm ∧ (∀ W, Calls Tryz.prog 62 #[txt nm, txt l] W fun e w' => e = .returned (.bool (nm == great l)) ∧ w' = W)
      ∧ (nm = great l → (∀ j, j < i → nmAt j ≠ great l) → spec (great l) = ⟨nm, le, mo, fi, la, st, wr⟩ ∧ known (great l) = true)
      ∧ w.cell? ⟨b, i * 7, none⟩ = some (txt nm) ∧ w.cell? ⟨b, i * 7 + 1, none⟩ = some (.int .i64 le) ∧ w.cell? ⟨b, i * 7 + 2, none⟩ = some (.int .i64 mo) ∧ w.cell? ⟨b, i * 7 + 3, none⟩ = some (.int .i64 fi)
      ∧ w.cell? ⟨b, i * 7 + 4, none⟩ = some (.int .i64 la) ∧ w.cell? ⟨b, i * 7 + 5, none⟩ = some (.int .i64 st) ∧ w.cell? ⟨b, i * 7 + 6, none⟩ = some (.bool wr) := by
  have hi' : i < allL.length := by rw [allL_len]; exact hi
  refine ⟨allL[i].nm, allL[i].le, allL[i].mo, allL[i].fi, allL[i].la, allL[i].st, allL[i].wr, nmAt_eq hi', fun W => ?_, fun h hf => place_found hi' h fun j hj => by rw [← nmAt_eq (by omega)]; exact hf j hj, ?_, ?_, ?_, ?_, ?_, ?_, ?_⟩
  · have hs := List.getElem_mem hi'
    have := alike_any allL[i].nm l W (Nat.le_trans (nm_len _ hs) (by decide)) hl
    rwa [great_names _ hs] at this
  · exact (all_cell hC i 0 hi' (by decide)).trans rfl
  · exact (all_cell hC i 1 hi' (by decide)).trans rfl
  · exact (all_cell hC i 2 hi' (by decide)).trans rfl
  · exact (all_cell hC i 3 hi' (by decide)).trans rfl
  · exact (all_cell hC i 4 hi' (by decide)).trans rfl
  · exact (all_cell hC i 5 hi' (by decide)).trans rfl
  · exact (all_cell hC i 6 hi' (by decide)).trans rfl
end Go.Proofs.YtcbncdigejjcpaaGreatDoor.Tb

namespace Go.Proofs.YtcbncdigejjcpaaGreatDoor.Tb
open Go.RowKit

/-- may a command have so many arguments, its name being one of them -/
def fitsM (s : Sp) (n : Int) : Bool := decide (s.le ≤ n - 1) && decide (n - 1 ≤ s.mo) && (decide (s.la ≠ -1) || decide ((n - s.fi).tmod s.st = 0))
/-- what Check tells -/
def chk : Row → Sp × Int
  | [] => (zeroSp, 120)
  | n :: r => if known (great n) then (if fitsM (spec (great n)) ((n :: r).length : Int) then (spec (great n), 0) else (zeroSp, 121)) else (zeroSp, 120)
/-- how commands are -/
def okB (s : Sp) : Bool := decide (0 ≤ s.le ∧ s.le ≤ 31 ∧ 0 ≤ s.mo ∧ s.mo ≤ 31) && ((decide (s.fi = 0 ∧ s.la = 0 ∧ s.st = 0)) || (decide (s.fi = 1 ∧ 1 ≤ s.le) && (decide (s.la = 1 ∧ s.st = 1) || decide (s.la = -1 ∧ (s.st = 1 ∨ s.st = 2)))))
theorem ok_rows : rowsL.all okB = true := by decide
theorem ok_spec (g : Nm) : okB (spec g) = true := by
  rw [spec_eq]
  exact List.all_eq_true.1 ok_rows _ (List.getElem_mem _)
structure OkS (le mo fi la st : Int) : Prop where
  le0 : 0 ≤ le
  le9 : le ≤ 31
  mo0 : 0 ≤ mo
  mo9 : mo ≤ 31
  kinds : (fi = 0 ∧ la = 0 ∧ st = 0) ∨ (fi = 1 ∧ 1 ≤ le ∧ ((la = 1 ∧ st = 1) ∨ (la = -1 ∧ st = 1) ∨ (la = -1 ∧ st = 2)))
theorem OkS.of {nm : Nm} {le mo fi la st : Int} {wr : Bool} (h : okB ⟨nm, le, mo, fi, la, st, wr⟩ = true) : OkS le mo fi la st := by
  simp only [okB, Bool.and_eq_true, Bool.or_eq_true, decide_eq_true_eq] at h
  obtain ⟨⟨h1, h2, h3, h4⟩, h5⟩ := h
  refine ⟨h1, h2, h3, h4, ?_⟩
  rcases h5 with h5 | ⟨⟨h6, h7⟩, h8 | ⟨h8, h9 | h9⟩⟩
  · exact .inl h5
  · exact .inr ⟨h6, h7, .inl h8⟩
  · exact .inr ⟨h6, h7, .inr (.inl ⟨h8, h9⟩)⟩
  · exact .inr ⟨h6, h7, .inr (.inr ⟨h8, h9⟩)⟩
set_option maxHeartbeats 4000000 in
set_option maxRecDepth 100000 in
theorem fits_any (nm : Nm) (le mo fi la st : Int) (wr : Bool) (hs : OkS le mo fi la st) (n : Int) (h1 : 1 ≤ n) (h2 : n ≤ 200) (w : World) :
    Calls Tryz.prog 42 #[.agg #[txt nm, .int .i64 le, .int .i64 mo, .int .i64 fi, .int .i64 la, .int .i64 st, .bool wr], .int .i64 n] w fun e w' => e = .returned (.bool (fitsM ⟨nm, le, mo, fi, la, st, wr⟩ n)) ∧ Hid (Below w.heap.size w w') := by
  obtain ⟨V, hV⟩ : ∃ V, V = fitsM ⟨nm, le, mo, fi, la, st, wr⟩ n := ⟨_, rfl⟩
  rw [← hV]
  obtain ⟨b1, b2, b3, b4, hk⟩ := hs
  have HB := hid (below_alloc w (.cells #[txt nm, .int .i64 le, .int .i64 mo, .int .i64 fi, .int .i64 la, .int .i64 st, .bool wr] 37))
  by_cases hle : n - 1 < le
  · obtain rfl : V = false := by
      rw [hV, fitsM, decide_eq_false (by show ¬ le ≤ n - 1; omega)]; rfl
    clear hV hk
    go_enter Tryz.func42, Tryz.ntmps42
    go_wp2_with fail
    go_ret
    exact ⟨rfl, HB.out⟩
  by_cases hmo : mo < n - 1
  · obtain rfl : V = false := by
      have : decide (n - 1 ≤ mo) = false := decide_eq_false (by omega)
      rw [hV]; simp only [fitsM]; rw [this]; simp
    clear hV hk
    go_enter Tryz.func42, Tryz.ntmps42
    go_wp2_with fail
    go_ret
    exact ⟨rfl, HB.out⟩
  have hV2 : V = (decide (la ≠ -1) || decide ((n - fi).tmod st = 0)) := by
    rw [hV, fitsM, decide_eq_true (by show le ≤ n - 1; omega), decide_eq_true (by show n - 1 ≤ mo; omega)]; rfl
  clear hV
  by_cases hla : la = -1
  · subst hla
    have hfi : fi = 1 ∧ (st = 1 ∨ st = 2) := by
      rcases hk with ⟨_, h, _⟩ | ⟨h, _, ⟨h', _⟩ | ⟨_, h'⟩ | ⟨_, h'⟩⟩
      · omega
      · omega
      · exact ⟨h, .inl h'⟩
      · exact ⟨h, .inr h'⟩
    obtain ⟨rfl, hst⟩ := hfi
    clear hk
    obtain ⟨r, hr⟩ : ∃ r, (n - 1).tmod st = r := ⟨_, rfl⟩
    have hV3 : V = (r == 0) := by
      rw [hV2, hr]
      by_cases h : r = 0
      · subst h; rfl
      · have h' : (r == 0) = false := beq_eq_false_iff_ne.2 h
        rw [h', decide_eq_false h]; rfl
    clear hV2
    rcases hst with rfl | rfl
    · go_enter Tryz.func42, Tryz.ntmps42
      go_wp2_with fail
      go_ret
      exact ⟨rfl, HB.out⟩
    · go_enter Tryz.func42, Tryz.ntmps42
      go_wp2_with fail
      go_ret
      exact ⟨rfl, HB.out⟩
  · obtain rfl : V = true := by rw [hV2, decide_eq_true hla]; rfl
    have hlb : (la != -1) = true := bne_iff_ne.2 hla
    clear hV2 hk
    go_enter Tryz.func42, Tryz.ntmps42
    go_wp2_with fail
    go_ret
    exact ⟨rfl, HB.out⟩
/-- texts that are no longer than a machine's -/
def Txs (l : Row) : Prop := ∀ t ∈ l, t.length ≤ 9223372036854775807
theorem chk_not {l : Row} (h : 0 < l.length) (hk : known (great l[0]) = false) : chk l = (zeroSp, 120) := by
  cases l with
  | nil => simp at h
  | cons n r => simp only [List.getElem_cons_zero] at hk; simp [chk, hk]
theorem chk_bad {l : Row} (h : 0 < l.length) (hk : known (great l[0]) = true) (hf : fitsM (spec (great l[0])) l.length = false) : chk l = (zeroSp, 121) := by
  cases l with
  | nil => simp at h
  | cons n r => simp only [List.getElem_cons_zero] at hk hf; rw [chk, if_pos hk, if_neg (by rw [hf]; decide)]
theorem chk_ok {l : Row} (h : 0 < l.length) (hk : known (great l[0]) = true) (hf : fitsM (spec (great l[0])) l.length = true) : chk l = (spec (great l[0]), 0) := by
  cases l with
  | nil => simp at h
  | cons n r => simp only [List.getElem_cons_zero] at hk hf ⊢; rw [chk, if_pos hk, if_pos hf]
set_option maxHeartbeats 8000000 in
set_option maxRecDepth 100000 in
/-- Check -/
theorem check_any (p : Option Addr) (c : Nat) (l : Row) (w : World) (h : Rd w p c l) (hl : l.length ≤ 200) (ht : Txs l) :
    Calls Tryz.prog 26 #[.slice p l.length c] w fun e w' => e = .returned (.tuple #[.agg (chk l).1.cs, .int .i64 (chk l).2]) ∧ Hid (Below w.heap.size w w') := by
  obtain ⟨S, hS⟩ : ∃ S, S = (chk l).1 := ⟨_, rfl⟩
  obtain ⟨E, hE⟩ : ∃ E, E = (chk l).2 := ⟨_, rfl⟩
  rw [← hS, ← hE]
  have HS := hid hS
  have HE := hid hE
  clear hS hE
  have HA0 := hid (heap_alloc_new w (.cells zeroSp.cs 37))
  have HB0 := hid (below_alloc w (.cells zeroSp.cs 37))
  by_cases hne : l = []
  · subst hne
    obtain rfl : S = zeroSp := HS.out
    obtain rfl : E = 120 := HE.out
    have HR := hid (setRow_heap _ w.heap.size _ zeroSp.cs _ _ HA0.out)
    have HB := hid (below_setRow HB0.out (Nat.le_refl _) zeroSp.cs)
    go_enter Tryz.func26, Tryz.ntmps26
    go_wp2_with (refine Go.wpList_store_rowTo rfl 37 _ _ rfl rfl w.heap.size zeroSp.cs rfl rfl 37 zeroSp.cs HA0.out (info_sp _) rfl (ones_sp _) (Hid.out ?_))
    refine hid ?_
    go_wp2_with fail
    exact bodyPost_ret (v := .tuple #[.agg zeroSp.cs, .int .i64 120]) (ret_sp2 rfl rfl rfl HR.out) rfl ⟨rfl, HB.out⟩
  · have hpos : 0 < l.length := List.length_pos_iff.2 hne
    obtain ⟨b, o, rfl, hc⟩ := h.strs hne
    have x0 := hc 0 hpos
    rw [Nat.add_zero] at x0
    have hbl : b < w.heap.size := block_lt_of_cell x0
    have y0 : (w.alloc (.cells #[.string ⟨#[]⟩, .int .i64 0, .int .i64 0, .int .i64 0, .int .i64 0, .int .i64 0, .bool false] 37)).cell? ⟨b, o, none⟩ = some (txt l[0]) := cell_turn x0 (HB0.out.block b hbl)
    have HF := hid (find_any l[0] · (ht _ (List.getElem_mem hpos)))
    have HN := hid (@chk_not l hpos)
    have HBd := hid (@chk_bad l hpos)
    have HOk := hid (@chk_ok l hpos)
    have HO := hid (ok_spec (great l[0]))
    have hz1 : 1 ≤ (l.length : Int) := by omega
    have hz2 : (l.length : Int) ≤ 200 := by omega
    have hz0 : ((l.length : Int) == 0) = false := by rw [beq_eq_false_iff_ne]; omega
    clear hc h ht hne x0 hl
    generalize known (great l[0]) = kn at *
    generalize spec (great l[0]) = s at *
    generalize l[0] = t at *
    generalize chk l = C at *
    obtain ⟨nm, le, mo, fi, la, st, wr⟩ := s
    go_enter Tryz.func26, Tryz.ntmps26
    go_wp2_with fail
    refine (HF.out _).mono ?_
    rintro _ W1 ⟨rfl, HW1⟩
    have HA1 : Hid (W1.heap[w.heap.size]? = some (.cells zeroSp.cs 37 (0, 0))) := (HW1.out.block w.heap.size (by simp)).trans HA0.out
    have HB1 : Hid (Below w.heap.size w W1) := HB0.out.trans (HW1.out.mono (by simp))
    have hs1 : w.heap.size + 1 ≤ W1.heap.size := by have := HW1.out.size; simpa using this
    clear HW1 HF HA0 HB0
    have HA2 : Hid ((W1.alloc (.cells #[txt nm, .int .i64 le, .int .i64 mo, .int .i64 fi, .int .i64 la, .int .i64 st, .bool wr] 37)).heap[w.heap.size]? = some (.cells zeroSp.cs 37 (0, 0))) := (heap_alloc_old _ _ (by omega)).trans HA1.out
    have HS2 := hid (heap_alloc_new W1 (.cells #[txt nm, .int .i64 le, .int .i64 mo, .int .i64 fi, .int .i64 la, .int .i64 st, .bool wr] 37))
    have HB2 := hid (HB1.out.trans ((below_alloc W1 (.cells #[txt nm, .int .i64 le, .int .i64 mo, .int .i64 fi, .int .i64 la, .int .i64 st, .bool wr] 37)).mono (by omega)))
    simp only [Sp.cs] at ⊢
    cases kn with
    | false =>
      have hC := HN.out rfl
      obtain rfl : S = zeroSp := by rw [HS.out, hC]
      obtain rfl : E = 120 := by rw [HE.out, hC]
      have HR := hid (setRow_heap _ w.heap.size _ zeroSp.cs _ _ HA2.out)
      have HB := hid (below_setRow HB2.out (Nat.le_refl _) zeroSp.cs)
      clear hC HBd HOk HN HO
      go_wp2_with (refine Go.wpList_store_rowTo rfl 37 _ _ rfl rfl w.heap.size zeroSp.cs rfl rfl 37 zeroSp.cs HA2.out (info_sp _) rfl (ones_sp _) (Hid.out ?_))
      refine hid ?_
      go_wp2_with fail
      exact bodyPost_ret (v := .tuple #[.agg zeroSp.cs, .int .i64 120]) (ret_sp2 rfl rfl rfl HR.out) rfl ⟨rfl, HB.out⟩
    | true =>
      have HBd2 := hid (HBd.out rfl)
      have HOk2 := hid (HOk.out rfl)
      clear HBd HOk
      go_wp2_with fail
      refine (fits_any nm le mo fi la st wr (OkS.of HO.out) l.length hz1 hz2 _).mono ?_
      rintro _ W3 ⟨rfl, HW3⟩
      have HA3 := hid ((HW3.out.block w.heap.size (by simp; omega)).trans HA2.out)
      have HS3 := hid ((HW3.out.block W1.heap.size (by simp)).trans HS2.out)
      have HB3 := hid (HB2.out.trans (HW3.out.mono (by simp; omega)))
      clear HW3 HA2 HS2 HB2 HN HO
      generalize fitsM ⟨nm, le, mo, fi, la, st, wr⟩ (l.length : Int) = F at *
      cases F with
      | false =>
        have hC := HBd2.out rfl
        obtain rfl : S = zeroSp := by rw [HS.out, hC]
        obtain rfl : E = 121 := by rw [HE.out, hC]
        have HR := hid (setRow_heap _ w.heap.size _ zeroSp.cs _ _ HA3.out)
        have HB := hid (below_setRow HB3.out (Nat.le_refl _) zeroSp.cs)
        clear hC HBd2 HOk2
        go_wp2_with (refine Go.wpList_store_rowTo rfl 37 _ _ rfl rfl w.heap.size zeroSp.cs rfl rfl 37 zeroSp.cs HA3.out (info_sp _) rfl (ones_sp _) (Hid.out ?_))
        refine hid ?_
        go_wp2_with fail
        exact bodyPost_ret (v := .tuple #[.agg zeroSp.cs, .int .i64 121]) (ret_sp2 rfl rfl rfl HR.out) rfl ⟨rfl, HB.out⟩
      | true =>
        have hC := HOk2.out rfl
        obtain rfl : S = ⟨nm, le, mo, fi, la, st, wr⟩ := by rw [HS.out, hC]
        obtain rfl : E = 0 := by rw [HE.out, hC]
        have HR := hid (setRow_heap _ w.heap.size _ (Sp.cs ⟨nm, le, mo, fi, la, st, wr⟩) _ _ HA3.out)
        have HB := hid (below_setRow HB3.out (Nat.le_refl _) (Sp.cs ⟨nm, le, mo, fi, la, st, wr⟩))
        clear hC HBd2 HOk2
        go_wp2_with first | (refine Go.wpList_load_row rfl 37 _ rfl W1.heap.size rfl 37 (Sp.cs ⟨nm, le, mo, fi, la, st, wr⟩) (0, 0) _ HS3.out Tryz.underlying37 rfl (info_sp _) ?_) | (refine Go.wpList_store_rowTo rfl 37 _ _ rfl rfl w.heap.size (Sp.cs ⟨nm, le, mo, fi, la, st, wr⟩) rfl rfl 37 zeroSp.cs HA3.out (info_sp _) rfl (ones_sp _) (Hid.out ?_))
        refine hid ?_
        go_wp2_with fail
        exact bodyPost_ret (v := .tuple #[.agg (Sp.cs ⟨nm, le, mo, fi, la, st, wr⟩), .int .i64 0]) (ret_sp2 rfl rfl rfl HR.out) rfl ⟨rfl, HB.out⟩

end Go.Proofs.YtcbncdigejjcpaaGreatDoor.Tb
