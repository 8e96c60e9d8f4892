/- Find: the program's and the document's. -/
import Derived.Test.YtndmhfhihajbdaaGreat
namespace Go.Proofs.Ytndmhfhihajbdaa
open Go.RowKit

theorem index_rows (i : Nat) (h : i < rowsL.length) (w : World) : (Instr.index 42 (.agg rowCells) (.int .i64 i)).run Try.prog w = .ok (.agg rowsL[i].cs) w :=
  match i, h with
  | 0, _ => by kernel_rfl
  | 1, _ => by kernel_rfl
  | 2, _ => by kernel_rfl
  | 3, _ => by kernel_rfl
  | 4, _ => by kernel_rfl
  | 5, _ => by kernel_rfl
  | 6, _ => by kernel_rfl
  | 7, _ => by kernel_rfl
  | 8, _ => by kernel_rfl
  | 9, _ => by kernel_rfl
  | 10, _ => by kernel_rfl
  | 11, _ => by kernel_rfl
  | 12, _ => by kernel_rfl
  | 13, _ => by kernel_rfl
  | 14, _ => by kernel_rfl
  | 15, _ => by kernel_rfl
  | 16, _ => by kernel_rfl
  | 17, _ => by kernel_rfl
  | 18, _ => by kernel_rfl
  | 19, _ => by kernel_rfl
  | 20, _ => by kernel_rfl
  | 21, _ => by kernel_rfl
  | 22, _ => by kernel_rfl
  | 23, _ => by kernel_rfl
  | 24, _ => by kernel_rfl
  | 25, _ => by kernel_rfl
  | 26, _ => by kernel_rfl
  | 27, _ => by kernel_rfl
  | 28, _ => by kernel_rfl
  | 29, _ => by kernel_rfl
  | 30, _ => by kernel_rfl
  | 31, _ => by kernel_rfl
  | 32, _ => by kernel_rfl
  | 33, _ => by kernel_rfl
  | 34, _ => by kernel_rfl
  | 35, _ => by kernel_rfl
  | 36, _ => by kernel_rfl
  | 37, _ => by kernel_rfl
  | 38, _ => by kernel_rfl
  | 39, _ => by kernel_rfl
  | 40, _ => by kernel_rfl
  | 41, _ => by kernel_rfl
  | 42, _ => by kernel_rfl
  | 43, _ => by kernel_rfl
  | 44, _ => by kernel_rfl
  | 45, _ => by kernel_rfl
  | 46, _ => by kernel_rfl
  | 47, _ => by kernel_rfl
  | n + 48, h => absurd h (by rw [rowsL_len]; omega)
theorem info_sp (s : Sp) : (Try.prog.info? 25).map (·.size) = some s.cs.size := by
  have : (Try.prog.info? 25).map (·.size) = some 7 := by kernel_rfl
  rw [this]; rfl
theorem ones_sp (s : Sp) : s.cs.all (·.oneCell') = true := by simp [Sp.cs, Value.oneCell']
theorem ret_sp2 {fn : Func} {p q : Tmp} (h : fn.results = #[.cell p 25, .tmp q]) {tmps : Array Value} {w : World} {b : Nat} {s : Sp} {v : Value} (hp : tmps.getD p undef = .pointer (some ⟨b, 0, none⟩)) (hq : tmps.getD q undef = v) (hB : w.heap[b]? = some (.cells s.cs 25 (0, 0))) :
    (results fn tmps).run Try.prog w = .ok (.tuple #[.agg s.cs, v]) w := by
  have hp' : tmps[p]?.getD undef = .pointer (some ⟨b, 0, none⟩) := by simpa using hp
  have hq' : tmps[q]?.getD undef = v := by simpa using hq
  simp [results, h, hp', hq', asAddr, run_loadVar_row w b 25 25 s.cs (0, 0) _ hB Try.underlying25 rfl (info_sp s)]
set_option maxHeartbeats 4000000 in
set_option maxRecDepth 100000 in
/-- Find -/
theorem find_any (l : Nm) (w : World) (hl : l.length ≤ 9223372036854775807) : Calls Try.prog 12 #[txt l] w fun e w' => e = .returned (.tuple #[.agg (spec (great l)).cs, .bool (known (great l))]) ∧ Hid (Below w.heap.size w w') := by
  have HG : Hid (∀ w, Calls Try.prog 21 #[txt l] w fun e w' => e = .returned (txt (great l)) ∧ Hid (Below w.heap.size w w')) := fun w => great_any l w hl
  generalize great l = g at *
  have hidx := index_rows (place g) (place_lt g)
  rw [← spec_eq] at hidx
  have HK : Hid (known g = decide (place g ≠ 0)) := rfl
  have H1 := hid (place_any g)
  generalize spec g = s at *
  generalize known g = kn at *
  generalize place g = k at *
  go_enter Try.func12, Try.ntmps12
  go_wp2_with fail
  refine (HG.out _).mono ?_
  rintro _ W1 ⟨rfl, HW1⟩
  have h0 : W1.heap[w.heap.size]? = some (.cells zeroSp.cs 25 (0, 0)) := (HW1.out.block w.heap.size (by simp)).trans (heap_alloc_new _ _)
  have HB1 : Hid (Below w.heap.size w W1) := (below_alloc _ _).trans (HW1.out.mono (by simp))
  have hs1 : w.heap.size + 1 ≤ W1.heap.size := by have := HW1.out.size; simpa using this
  have H0 := hid h0
  clear h0
  go_wp2_with fail
  refine (H1.out _).mono ?_
  rintro _ _ ⟨rfl, rfl⟩
  go_wp2_with fail
  refine (rows_any _).mono ?_
  rintro _ W2 ⟨rfl, HW2⟩
  have H02 := hid ((HW2.out.block w.heap.size (by omega)).trans H0.out)
  have HB2 := hid (HB1.out.trans (HW2.out.mono (by omega)))
  have HR := hid (setRow_heap W2 w.heap.size _ s.cs _ _ H02.out)
  have HB3 := hid (below_setRow HB2.out (Nat.le_refl _) s.cs)
  clear H1
  generalize rowCells = RC at *
  have hkz : ((k : Int) != 0) = kn := by
    rw [HK.out]
    by_cases hk : k = 0
    · subst hk; rfl
    · rw [decide_eq_true hk]; simpa using hk
  clear HK
  generalize (k : Int) = z at *
  go_wp2_with (refine Go.wpList_store_rowTo rfl 25 _ _ rfl rfl w.heap.size s.cs rfl rfl 25 zeroSp.cs H02.out (info_sp s) rfl (ones_sp s) (Hid.out ?_))
  refine hid ?_
  go_wp2_with fail
  exact bodyPost_ret (v := .tuple #[.agg s.cs, .bool kn]) (ret_sp2 rfl rfl rfl HR.out) rfl ⟨rfl, HB3.out⟩
theorem tri (z : Int) : z < 97 ∨ (97 ≤ z ∧ z ≤ 122) ∨ 122 < z := by omega
/-- a letter made great, as numbers -/
theorem up_num (c : UInt8) : ((up c).toNat : Int) = if 97 ≤ (c.toNat : Int) ∧ (c.toNat : Int) ≤ 122 then (c.toNat : Int) - 32 else (c.toNat : Int) := by
  split
  · rename_i h
    rw [up_small c h.1 h.2]; omega
  · rename_i h
    rw [up_else c h]
set_option maxHeartbeats 4000000 in
set_option maxRecDepth 100000 in
/-- the document's Alike -/
theorem alike_any (a b : Nm) (w : World) (hl : a.length ≤ 9223372036854775807) (hb : b.length ≤ 9223372036854775807) : Calls Try.prog 22 #[txt a, txt b] w fun e w' => e = .returned (.bool (great a == great b)) ∧ w' = w := by
  obtain ⟨V, hV⟩ : ∃ V, V = (great a == great b) := ⟨_, rfl⟩
  rw [← hV]
  have HV := hid hV
  have hlz : (a.length : Int) ≤ 9223372036854775807 := by omega
  have hbz : (b.length : Int) ≤ 9223372036854775807 := by omega
  clear hV
  by_cases hlen : a.length = b.length
  · have HL := hid hlen
    have hne : ((a.length : Int) != (b.length : Int)) = false := by simp [hlen]
    clear hlen
    go_enter Try.func22, Try.ntmps22
    go_wp2_with fail
    go_loopw [5] (fun v5 W => ∃ i : Nat, v5 = .int .i64 i ∧ i ≤ a.length ∧ Hid (great (a.take i) = great (b.take i)) ∧ W = w) (fun v5 _ => a.length - (intOf v5).toNat)
    case atStart => exact ⟨0, rfl, Nat.zero_le _, rfl, rfl⟩
    case round =>
      obtain ⟨i, rfl, hi, HI, rfl⟩ := hrel
      by_cases hlt : i < a.length
      · have hlt2 : i < b.length := by have := HL.out; omega
        have hiz : (i : Int) < (a.length : Int) := by omega
        have hiz2 : (i : Int) < (b.length : Int) := by omega
        have HT : Hid (great (a.take (i + 1)) = great (b.take (i + 1)) ↔ up a[i] = up b[i]) := by
          have := HI.out
          unfold great at this ⊢
          rw [Hid, List.take_succ_eq_append_getElem hlt, List.take_succ_eq_append_getElem hlt2, List.map_append, List.map_append, this]
          simp
        have HF : Hid (up a[i] ≠ up b[i] → V = false) := fun hne => by
          rw [HV.out]
          refine beq_eq_false_iff_ne.2 fun e => hne ?_
          have h1 : (great a)[i]'(by simp [great, hlt]) = (great b)[i]'(by simp [great, hlt2]) := by simp only [e]
          simpa [great] using h1
        obtain ⟨zx, hzx⟩ : ∃ z : Int, z = (a[i].toNat : Int) := ⟨_, rfl⟩
        obtain ⟨zy, hzy⟩ : ∃ z : Int, z = (b[i].toNat : Int) := ⟨_, rfl⟩
        have hx : ∀ h, (((⟨a.toArray⟩ : ByteArray)[i]'h).toNat : Int) = zx := fun _ => hzx.symm
        have hy : ∀ h, (((⟨b.toArray⟩ : ByteArray)[i]'h).toNat : Int) = zy := fun _ => hzy.symm
        have hx0 : 0 ≤ zx := by omega
        have hy0 : 0 ≤ zy := by omega
        have hx9 : zx ≤ 255 := by have := UInt8.toNat_lt a[i]; omega
        have hy9 : zy ≤ 255 := by have := UInt8.toNat_lt b[i]; omega
        have Hu := hid (up_num a[i])
        have Hv := hid (up_num b[i])
        have Heq : Hid (up a[i] = up b[i] ↔ ((up a[i]).toNat : Int) = ((up b[i]).toNat : Int)) := ⟨fun e => by rw [e], fun e => UInt8.toNat_inj.1 (by omega)⟩
        rw [← hzx] at Hu
        rw [← hzy] at Hv
        clear hzx hzy
        generalize up a[i] = x at *
        generalize up b[i] = y at *

        rcases tri zx with hx1 | ⟨hx1, hx2⟩ | hx1 <;> rcases tri zy with hy1 | ⟨hy1, hy2⟩ | hy1
        · have e1 : (x.toNat : Int) = zx := by rw [Hu.out, if_neg (by omega)]
          have e2 : (y.toNat : Int) = zy := by rw [Hv.out, if_neg (by omega)]
          rw [e1, e2] at Heq
          clear e1 e2 Hu Hv
          by_cases e : x = y
          · have hq : ((zx) != (zy)) = false := by rw [bne_eq_false_iff_eq]; exact Heq.out.1 e
            have HT2 := hid (HT.out.2 e)
            clear e Heq HT HF
            go_wp2_with fail
            exact ⟨⟨i + 1, by go_num, by omega, HT2.out, trivial⟩, by simp [intOf]; omega⟩
          · have hq : ((zx) != (zy)) = true := by rw [bne_iff_ne]; exact fun h => e (Heq.out.2 h)
            obtain rfl := HF.out e
            clear e Heq HT HF
            go_wp2_with fail
            go_ret
            exact ⟨rfl, rfl⟩
        · have e1 : (x.toNat : Int) = zx := by rw [Hu.out, if_neg (by omega)]
          have e2 : (y.toNat : Int) = zy - 32 := by rw [Hv.out, if_pos ⟨hy1, hy2⟩]
          rw [e1, e2] at Heq
          clear e1 e2 Hu Hv
          by_cases e : x = y
          · have hq : ((zx) != (zy - 32)) = false := by rw [bne_eq_false_iff_eq]; exact Heq.out.1 e
            have HT2 := hid (HT.out.2 e)
            clear e Heq HT HF
            go_wp2_with fail
            exact ⟨⟨i + 1, by go_num, by omega, HT2.out, trivial⟩, by simp [intOf]; omega⟩
          · have hq : ((zx) != (zy - 32)) = true := by rw [bne_iff_ne]; exact fun h => e (Heq.out.2 h)
            obtain rfl := HF.out e
            clear e Heq HT HF
            go_wp2_with fail
            go_ret
            exact ⟨rfl, rfl⟩
        · have e1 : (x.toNat : Int) = zx := by rw [Hu.out, if_neg (by omega)]
          have e2 : (y.toNat : Int) = zy := by rw [Hv.out, if_neg (by omega)]
          rw [e1, e2] at Heq
          clear e1 e2 Hu Hv
          by_cases e : x = y
          · have hq : ((zx) != (zy)) = false := by rw [bne_eq_false_iff_eq]; exact Heq.out.1 e
            have HT2 := hid (HT.out.2 e)
            clear e Heq HT HF
            go_wp2_with fail
            exact ⟨⟨i + 1, by go_num, by omega, HT2.out, trivial⟩, by simp [intOf]; omega⟩
          · have hq : ((zx) != (zy)) = true := by rw [bne_iff_ne]; exact fun h => e (Heq.out.2 h)
            obtain rfl := HF.out e
            clear e Heq HT HF
            go_wp2_with fail
            go_ret
            exact ⟨rfl, rfl⟩
        · have e1 : (x.toNat : Int) = zx - 32 := by rw [Hu.out, if_pos ⟨hx1, hx2⟩]
          have e2 : (y.toNat : Int) = zy := by rw [Hv.out, if_neg (by omega)]
          rw [e1, e2] at Heq
          clear e1 e2 Hu Hv
          by_cases e : x = y
          · have hq : ((zx - 32) != (zy)) = false := by rw [bne_eq_false_iff_eq]; exact Heq.out.1 e
            have HT2 := hid (HT.out.2 e)
            clear e Heq HT HF
            go_wp2_with fail
            exact ⟨⟨i + 1, by go_num, by omega, HT2.out, trivial⟩, by simp [intOf]; omega⟩
          · have hq : ((zx - 32) != (zy)) = true := by rw [bne_iff_ne]; exact fun h => e (Heq.out.2 h)
            obtain rfl := HF.out e
            clear e Heq HT HF
            go_wp2_with fail
            go_ret
            exact ⟨rfl, rfl⟩
        · have e1 : (x.toNat : Int) = zx - 32 := by rw [Hu.out, if_pos ⟨hx1, hx2⟩]
          have e2 : (y.toNat : Int) = zy - 32 := by rw [Hv.out, if_pos ⟨hy1, hy2⟩]
          rw [e1, e2] at Heq
          clear e1 e2 Hu Hv
          by_cases e : x = y
          · have hq : ((zx - 32) != (zy - 32)) = false := by rw [bne_eq_false_iff_eq]; exact Heq.out.1 e
            have HT2 := hid (HT.out.2 e)
            clear e Heq HT HF
            go_wp2_with fail
            exact ⟨⟨i + 1, by go_num, by omega, HT2.out, trivial⟩, by simp [intOf]; omega⟩
          · have hq : ((zx - 32) != (zy - 32)) = true := by rw [bne_iff_ne]; exact fun h => e (Heq.out.2 h)
            obtain rfl := HF.out e
            clear e Heq HT HF
            go_wp2_with fail
            go_ret
            exact ⟨rfl, rfl⟩
        · have e1 : (x.toNat : Int) = zx - 32 := by rw [Hu.out, if_pos ⟨hx1, hx2⟩]
          have e2 : (y.toNat : Int) = zy := by rw [Hv.out, if_neg (by omega)]
          rw [e1, e2] at Heq
          clear e1 e2 Hu Hv
          by_cases e : x = y
          · have hq : ((zx - 32) != (zy)) = false := by rw [bne_eq_false_iff_eq]; exact Heq.out.1 e
            have HT2 := hid (HT.out.2 e)
            clear e Heq HT HF
            go_wp2_with fail
            exact ⟨⟨i + 1, by go_num, by omega, HT2.out, trivial⟩, by simp [intOf]; omega⟩
          · have hq : ((zx - 32) != (zy)) = true := by rw [bne_iff_ne]; exact fun h => e (Heq.out.2 h)
            obtain rfl := HF.out e
            clear e Heq HT HF
            go_wp2_with fail
            go_ret
            exact ⟨rfl, rfl⟩
        · have e1 : (x.toNat : Int) = zx := by rw [Hu.out, if_neg (by omega)]
          have e2 : (y.toNat : Int) = zy := by rw [Hv.out, if_neg (by omega)]
          rw [e1, e2] at Heq
          clear e1 e2 Hu Hv
          by_cases e : x = y
          · have hq : ((zx) != (zy)) = false := by rw [bne_eq_false_iff_eq]; exact Heq.out.1 e
            have HT2 := hid (HT.out.2 e)
            clear e Heq HT HF
            go_wp2_with fail
            exact ⟨⟨i + 1, by go_num, by omega, HT2.out, trivial⟩, by simp [intOf]; omega⟩
          · have hq : ((zx) != (zy)) = true := by rw [bne_iff_ne]; exact fun h => e (Heq.out.2 h)
            obtain rfl := HF.out e
            clear e Heq HT HF
            go_wp2_with fail
            go_ret
            exact ⟨rfl, rfl⟩
        · have e1 : (x.toNat : Int) = zx := by rw [Hu.out, if_neg (by omega)]
          have e2 : (y.toNat : Int) = zy - 32 := by rw [Hv.out, if_pos ⟨hy1, hy2⟩]
          rw [e1, e2] at Heq
          clear e1 e2 Hu Hv
          by_cases e : x = y
          · have hq : ((zx) != (zy - 32)) = false := by rw [bne_eq_false_iff_eq]; exact Heq.out.1 e
            have HT2 := hid (HT.out.2 e)
            clear e Heq HT HF
            go_wp2_with fail
            exact ⟨⟨i + 1, by go_num, by omega, HT2.out, trivial⟩, by simp [intOf]; omega⟩
          · have hq : ((zx) != (zy - 32)) = true := by rw [bne_iff_ne]; exact fun h => e (Heq.out.2 h)
            obtain rfl := HF.out e
            clear e Heq HT HF
            go_wp2_with fail
            go_ret
            exact ⟨rfl, rfl⟩
        · have e1 : (x.toNat : Int) = zx := by rw [Hu.out, if_neg (by omega)]
          have e2 : (y.toNat : Int) = zy := by rw [Hv.out, if_neg (by omega)]
          rw [e1, e2] at Heq
          clear e1 e2 Hu Hv
          by_cases e : x = y
          · have hq : ((zx) != (zy)) = false := by rw [bne_eq_false_iff_eq]; exact Heq.out.1 e
            have HT2 := hid (HT.out.2 e)
            clear e Heq HT HF
            go_wp2_with fail
            exact ⟨⟨i + 1, by go_num, by omega, HT2.out, trivial⟩, by simp [intOf]; omega⟩
          · have hq : ((zx) != (zy)) = true := by rw [bne_iff_ne]; exact fun h => e (Heq.out.2 h)
            obtain rfl := HF.out e
            clear e Heq HT HF
            go_wp2_with fail
            go_ret
            exact ⟨rfl, rfl⟩
      · obtain rfl : V = true := by
          rw [HV.out, beq_iff_eq]
          have := HI.out
          rwa [List.take_of_length_le (by omega), List.take_of_length_le (by have := HL.out; omega)] at this
        go_wp2_with fail
        go_ret
        exact ⟨rfl, rfl⟩
  · obtain rfl : V = false := by
      rw [HV.out]
      refine beq_eq_false_iff_ne.2 fun e => hlen ?_
      have := congrArg List.length e
      simpa [great] using this
    have hne : ((a.length : Int) != (b.length : Int)) = true := by
      rw [bne_iff_ne]; omega
    clear hlen
    go_enter Try.func22, Try.ntmps22
    go_wp2_with fail
    go_ret
    exact ⟨rfl, rfl⟩

end Go.Proofs.Ytndmhfhihajbdaa
