/- strings.LastIndexAny of any text and both signs: where the last sign is, if but digits are behind it; and in any case a place of the text, or -1. -/
import Derived.Test.YtenncfohifekhaaDoorIdxRune
import Derived.Lib.TrimU
import Derived.Lib.AsciiSet
import Derived.Deep.WholeRow
namespace Go.Proofs.YtenncfohifekhaaDoor
open Go.RowKit

/-- what is read of utf8's tables -/
structure Envs (w : World) : Prop where
  room : 7 < w.heap.size
  utf : Lib.Utf8Tabs 4 5 w
theorem Envs.below {w w' : World} (h : Envs w) (hb : Below w.heap.size w w') : Envs w' := by
  have k : ∀ k, k ≤ 7 → w'.heap[k]? = w.heap[k]? := fun k hk => hb.block k (by have := h.room; omega)
  refine ⟨Nat.lt_of_lt_of_le h.room hb.size, ?_, ?_⟩
  · intro c hc
    rw [World.cell?_of_block (k 4 (by decide))]; exact h.utf.1 c hc
  · intro i hi
    have e : ∀ j, w'.cell? ⟨5, j, none⟩ = w.cell? ⟨5, j, none⟩ := fun j => World.cell?_of_block (k 5 (by decide))
    rw [e, e]; exact h.utf.2 i hi
theorem idx_sg {c : UInt8} (h : sg c = true) : 0 ≤ Lib.indexByte [43, 45] c := by
  have : c = 43 ∨ c = 45 := by simpa [sg] using h
  rcases this with rfl | rfl <;> decide
theorem idx_no {c : UInt8} (h : sg c = false) : Lib.indexByte [43, 45] c = -1 := by
  have : c ≠ 43 ∧ c ≠ 45 := by simpa [sg] using h
  have h1 : ((43 : UInt8) == c) = false := beq_eq_false_iff_ne.2 fun e => this.1 e.symm
  have h2 : ((45 : UInt8) == c) = false := beq_eq_false_iff_ne.2 fun e => this.2 e.symm
  simp [Lib.indexByte, h1, h2]
/-- what IndexRune tells at a byte's rune -/
def idxB (r : Nat) : Int := if r < 128 then Lib.indexByte [43, 45] r.toUInt8 else -1
theorem idxB_byte (c : UInt8) (h : c.toNat < 128) : idxB c.toNat = Lib.indexByte [43, 45] c := by
  unfold idxB
  rw [if_pos h]
  congr 1
  exact UInt8.ofNat_toNat
theorem dec_snoc (t : List UInt8) (b : UInt8) (h : b.toNat < 128) : Lib.decodeLastL (t ++ [b]) = (b.toNat, 1) := by
  have hg : (t ++ [b]).getD ((t ++ [b]).length - 1) 0 = b := by simp [List.getD]
  unfold Lib.decodeLastL
  rw [if_neg (by simp), hg, if_pos h]
theorem dec_last (l : List UInt8) (i : Nat) (hi : i < l.length) (h : l[i].toNat < 128) : Lib.decodeLastL (l.take (i + 1)) = (l[i].toNat, 1) := by
  rw [List.take_succ_eq_append_getElem hi]
  exact dec_snoc _ _ h
theorem sgs_facts {S : ByteArray} (h : S = sgs) : S.toList.isEmpty = false ∧ S.size = 2 ∧ S.data.toList = [43, 45] := by
  subst h
  refine ⟨?_, rfl, rfl⟩
  rw [Lib.toList_data]; rfl
theorem none_at {l : List UInt8} {k : Int} (h0 : -1 ≤ k) (h1 : k < l.length) (h : ∀ a c d, l = a ++ c :: d → sg c = true → Dig d → False) : LastAt l k := ⟨h0, h1, fun a c d e h2 h3 => (h a c d e h2 h3).elim⟩

set_option maxHeartbeats 2000000 in
set_option maxRecDepth 100000 in
theorem last_one (l : List UInt8) (w : World) (h1 : l.length = 1) : Calls Tryd.prog 31 #[.string ⟨l.toArray⟩, .string sgs] w fun e w' => (∃ k, e = .returned (.int .i64 k) ∧ LastAt l k) ∧ Hid (Below w.heap.size w w') := by
  obtain ⟨S, hS⟩ : ∃ S : ByteArray, S = sgs := ⟨_, rfl⟩
  obtain ⟨hemp, hz, _⟩ := sgs_facts hS
  have HI : Hid (∀ (r : Nat) (W : World), Calls Tryd.prog 37 #[.string S, .int .i32 (r : Int)] W fun e w' => e = .returned (.int .i64 (idxB r)) ∧ Hid (Below W.heap.size W w')) := fun r W => by rw [hS]; exact idx_any r W
  rw [← hS]
  clear hS
  obtain ⟨T, hT⟩ : ∃ T : ByteArray, T = ⟨l.toArray⟩ := ⟨_, rfl⟩
  have hsz : T.size = 1 := by rw [hT]; simpa [ByteArray.size] using h1
  have hx : T[0]'(by omega) = l[0] := by subst hT; rfl
  rw [← hT]
  clear hT
  have hszI : (T.size : Int) = 1 := by omega
  have HA := hid (Ahead.all l)
  rw [h1] at HA
  obtain ⟨X, hX⟩ : ∃ X : Nat, X = l[0].toNat := ⟨_, rfl⟩
  have hxX : (T[0]'(by omega)).toNat = X := by rw [hx, hX]
  have hlt : X < 256 := by rw [hX]; exact l[0].toNat_lt
  by_cases ha : X < 128
  · have hb : idxB X = Lib.indexByte [43, 45] l[0] := by rw [hX]; exact idxB_byte _ (by omega)
    have haz : (X : Int) < 128 := by omega
    cases hs : sg l[0] with
    | true =>
      have hi := idx_sg hs
      rw [← hb] at hi
      have HL := hid (HA.out.found (i := 0) (by omega) hs)
      have HIX := hid (HI.out X)
      generalize idxB X = K at *
      clear hb hs hX hx HI
      go_enter Tryd.func31, Tryd.ntmps31
      go_wp2_with fail
      refine (HIX.out _).mono ?_; rintro e w1 ⟨rfl, hh⟩
      go_wp2_with fail
      go_ret
      exact ⟨⟨0, rfl, HL.out⟩, hh⟩
    | false =>
      have hi := idx_no hs
      rw [← hb] at hi
      have HL := hid (HA.out.next (i := 0) (by omega) hs).none
      have HIX := hid (HI.out X)
      rw [hi] at HIX
      clear hb hs hX hx HI hi
      go_enter Tryd.func31, Tryd.ntmps31
      go_wp2_with fail
      refine (HIX.out _).mono ?_; rintro e w1 ⟨rfl, hh⟩
      go_wp2_with fail
      go_ret
      exact ⟨⟨-1, rfl, HL.out⟩, hh⟩
  · have HL := hid (none_at (k := -1) (by omega) (by omega) (HA.out.other (i := 0) (by omega) (by omega)))
    have haz : (128 : Int) ≤ (X : Int) := by omega
    have HIX := hid (HI.out 65533)
    rw [show idxB 65533 = -1 from rfl] at HIX
    clear hX hx HI
    go_enter Tryd.func31, Tryd.ntmps31
    go_wp2_with fail
    refine (HIX.out _).mono ?_; rintro e w1 ⟨rfl, hh⟩
    go_wp2_with fail
    go_ret
    exact ⟨⟨-1, rfl, HL.out⟩, hh⟩

theorem zeroSet : ∀ w, (zeroValue 56).run Tryd.prog w = .ok (.agg (Array.replicate 256 (.bool false))) w := (zero_of_info (P := Tryd.prog) (n := 256) (by kernel_rfl)).1
set_option maxHeartbeats 4000000 in
set_option maxRecDepth 100000 in
theorem last_long (l : List UInt8) (w : World) (h8 : 8 < l.length) (hl : l.length ≤ 9223372036854775807) : Calls Tryd.prog 31 #[.string ⟨l.toArray⟩, .string sgs] w fun e w' => (∃ k, e = .returned (.int .i64 k) ∧ LastAt l k) ∧ Hid (Below w.heap.size w w') := by
  obtain ⟨S, hS⟩ : ∃ S : ByteArray, S = sgs := ⟨_, rfl⟩
  obtain ⟨hemp, hz, hdat⟩ := sgs_facts hS
  have HM := hid (Tryd.strings_makeASCIISet zeroSet S w (by omega) (by
    rw [hdat]
    intro j b hb
    have hm : b ∈ [43, 45] := List.mem_of_getElem? hb
    have : b = 43 ∨ b = 45 := by simpa using hm
    rcases this with rfl | rfl <;> decide))
  rw [hdat] at HM
  rw [← hS]
  clear hS hdat
  obtain ⟨T, hT⟩ : ∃ T : ByteArray, T = ⟨l.toArray⟩ := ⟨_, rfl⟩
  have hsz : T.size = l.length := by rw [hT]; simp [ByteArray.size]
  have HT : Hid (∀ (i : Nat) (h : i < T.size) (h' : i < l.length), T[i]'h = l[i]'h') := fun i h h' => by subst hT; rfl
  have HS := hid (fun W => Tryd.strings_shouldUseASCIISet (T.size : Int) W)
  rw [decide_eq_true (show (8 : Int) < (T.size : Int) by omega)] at HS
  rw [← hT]
  clear hT
  have hne : ((T.size : Int) == 1) = false := beq_eq_false_iff_ne.2 (by omega)
  obtain ⟨SC, hSC⟩ : ∃ SC : Array Value, SC = Lib.setCells [43, 45] := ⟨_, rfl⟩
  have HCs : Hid (SC.size = 256 ∧ SC.all (·.oneCell') = true) := by rw [hSC]; exact ⟨Lib.setCells_size _, Lib.setCells_one _⟩
  have HC : Hid (∀ x : UInt8, SC[x.toNat]? = some (.bool (sg x))) := fun x => by
    rw [hSC, Lib.setCells_at]
    congr 2
    by_cases h1 : x = 43
    · subst h1; rfl
    · by_cases h2 : x = 45
      · subst h2; rfl
      · simp [sg, h1, h2]
  rw [← hSC] at HM
  clear hSC
  have hsc : (storeCells ⟨w.heap.size + 1, 0, none⟩ SC.toList 0).run Tryd.prog ((w.alloc (.cells SC 56)).alloc (.cells Tryd.zeroCells56 56)) = .ok () ((w.alloc (.cells SC 56)).alloc (.cells SC 56)) := by
    have := run_storeCells_new (P := Tryd.prog) (w.alloc (.cells SC 56)) 56 Tryd.zeroCells56 SC (by rw [HCs.out.1]; kernel_rfl) (by rw [HCs.out.1]; kernel_rfl) HCs.out.2
    simpa using this
  have HB2 := hid ((below_alloc w (.cells SC 56)).trans ((below_alloc (w.alloc (.cells SC 56)) (.cells SC 56)).mono (by simp)))
  have HCell : Hid (∀ x : UInt8, ((w.alloc (.cells SC 56)).alloc (.cells SC 56)).cell? ⟨w.heap.size + 1, x.toNat, none⟩ = some (.bool (sg x))) := fun x => by
    rw [World.cell?_alloc_at _ _ _ _ (by simp), HC.out]
  have HA := hid (Ahead.all l)
  have HZ := hid hsz
  have t8 : (8 : Int) < (T.size : Int) := by omega
  have tl : (T.size : Int) ≤ 9223372036854775807 := by omega
  clear hsz h8 hl
  go_enter Tryd.func31, Tryd.ntmps31
  go_wp2_with fail
  refine (HS.out _).mono ?_; rintro e w1 ⟨rfl, hw⟩
  rw [hw]; clear hw w1
  go_wp2_with fail
  refine HM.out.mono ?_; rintro e w2 ⟨rfl, hw⟩
  rw [hw]; clear hw w2
  have h256 := HCs.out.1
  go_wp2_with fail
  clear hsc HM HS
  go_loopg [8] T.size (fun g s8 wx => s8 = .int .i64 ((g : Int) - 1) ∧ g ≤ T.size ∧ Hid (Ahead l g) ∧ wx = ((w.alloc (.cells SC 56)).alloc (.cells SC 56)))
  case atStart => exact ⟨rfl, Nat.le_refl _, by rw [HZ.out]; exact HA.out, rfl⟩
  case round =>
    obtain ⟨rfl, hg, HG, rfl⟩ := hrel
    cases gk with
    | zero =>
      have HL := hid HG.out.none
      rw [show (((0 : Nat) : Int) - 1) = -1 from rfl]
      go_wp2_with fail
      go_ret
      exact ⟨⟨-1, rfl, HL.out⟩, HB2.out⟩
    | succ g =>
      rw [show (((g + 1 : Nat) : Int) - 1) = (g : Int) by omega]
      have hgl : g < T.size := by omega
      have hgz : (g : Int) < (T.size : Int) := by omega
      have hgl2 : g < l.length := by have := HZ.out; omega
      have hx := HT.out g hgl hgl2
      have hcx := HCell.out l[g]
      obtain ⟨x, hxl⟩ : ∃ x, x = l[g] := ⟨_, rfl⟩
      rw [← hxl] at hx hcx
      have HAC := hid (fun (W : World) (hc : W.cell? ⟨w.heap.size + 1, x.toNat, none⟩ = some (.bool (sg x))) => Tryd.asciiSet_contains (w.heap.size + 1) x (sg x) W hc)
      cases hs : sg x with
      | true =>
        have HL := hid (HG.out.found hgl2 (hxl ▸ hs))
        rw [hs] at hcx HAC
        clear hxl
        go_wp2_with fail
        refine (HAC.out _ hcx).mono ?_; rintro e w1 ⟨rfl, rfl⟩
        go_wp2_with fail
        go_ret
        exact ⟨⟨g, rfl, HL.out⟩, HB2.out⟩
      | false =>
        have HL := hid (HG.out.next hgl2 (hxl ▸ hs))
        rw [hs] at hcx HAC
        clear hxl
        go_wp2_with fail
        refine (HAC.out _ hcx).mono ?_; rintro e w1 ⟨rfl, rfl⟩
        go_wp2_with fail
        go_roundg g
        case measure => omega
        case rel => exact ⟨by first | rfl | simp, by omega, HL.out, rfl⟩

theorem take_ba (T : ByteArray) (l : List UInt8) (h : T = ⟨l.toArray⟩) (i : Nat) : T.extract 0 i = ⟨(l.take i).toArray⟩ := by
  subst h
  apply ByteArray.ext
  simp [ByteArray.data_extract]
set_option maxHeartbeats 4000000 in
set_option maxRecDepth 100000 in
theorem last_short (l : List UInt8) (w : World) (hE : Envs w) (h1 : l.length ≠ 1) (h8 : l.length ≤ 8) : Calls Tryd.prog 31 #[.string ⟨l.toArray⟩, .string sgs] w fun e w' => (∃ k, e = .returned (.int .i64 k) ∧ LastAt l k) ∧ Hid (Below w.heap.size w w') := by
  obtain ⟨S, hS⟩ : ∃ S : ByteArray, S = sgs := ⟨_, rfl⟩
  obtain ⟨hemp, hz, _⟩ := sgs_facts hS
  have HI : Hid (∀ (r : Nat) (W : World), Calls Tryd.prog 37 #[.string S, .int .i32 (r : Int)] W fun e w' => e = .returned (.int .i64 (idxB r)) ∧ Hid (Below W.heap.size W w')) := fun r W => by rw [hS]; exact idx_any r W
  rw [← hS]
  clear hS
  obtain ⟨T, hT⟩ : ∃ T : ByteArray, T = ⟨l.toArray⟩ := ⟨_, rfl⟩
  have hsz : T.size = l.length := by rw [hT]; simp [ByteArray.size]
  have HD : Hid (∀ (i : Nat) (W : World), Envs W → Calls Tryd.prog 41 #[.string (T.extract 0 i)] W fun e w' => e = .returned (.tuple #[.int .i32 ((Lib.decodeLastL (l.take i)).1 : Nat), .int .i64 ((Lib.decodeLastL (l.take i)).2 : Nat)]) ∧ Below W.heap.size W w') := fun i W hW => by
    rw [take_ba T l hT i]
    exact Tryd.utf8_DecodeLastRuneInString ⟨(l.take i).toArray⟩ W (by simp [ByteArray.size]; omega) hW.utf
  have HS := hid (fun W => Tryd.strings_shouldUseASCIISet (T.size : Int) W)
  rw [decide_eq_false (show ¬ (8 : Int) < (T.size : Int) by omega)] at HS
  rw [← hT]
  clear hT
  have hne : ((T.size : Int) == 1) = false := beq_eq_false_iff_ne.2 (by omega)
  have HA := hid (Ahead.all l)
  have HZ := hid hsz
  have HE := hid hE
  have t8 : (T.size : Int) ≤ 8 := by omega
  have h2 : ((2 : Int) == 1) = false := rfl
  clear hsz h8 h1 hE
  go_enter Tryd.func31, Tryd.ntmps31
  go_wp2_with fail
  refine (HS.out _).mono ?_; rintro e w1 ⟨rfl, hw⟩
  rw [hw]; clear hw w1
  go_wp2_with fail
  clear HS
  go_loopg [13, 14, 15] T.size (fun g v13 _ _ wx => ∃ i : Nat, v13 = .int .i64 (i : Int) ∧ i ≤ g ∧ g ≤ T.size ∧ Hid (Ahead l i) ∧ Hid (Below w.heap.size w wx))
  case atStart => exact ⟨T.size, rfl, Nat.le_refl _, Nat.le_refl _, by rw [HZ.out]; exact HA.out, Below.refl _ _⟩
  case round =>
    obtain ⟨i, rfl, hig, hg, HG, HB⟩ := hrel
    cases i with
    | zero =>
      have HL := hid HG.out.none
      rw [show (((0 : Nat) : Int)) = 0 from rfl]
      go_wp2_with fail
      go_ret
      exact ⟨⟨-1, rfl, HL.out⟩, HB.out⟩
    | succ i =>
      have hil : i + 1 ≤ T.size := by omega
      have hill : i < l.length := by have := HZ.out; omega
      have HDi := hid (HD.out (i + 1) wr (HE.out.below HB.out))
      by_cases ha : l[i].toNat < 128
      · rw [dec_last l i hill ha] at HDi
        have hb := idxB_byte l[i] ha
        have HIX := hid (HI.out l[i].toNat)
        obtain ⟨X, hX⟩ : ∃ X : Nat, X = l[i].toNat := ⟨_, rfl⟩
        obtain ⟨K, hK⟩ : ∃ K : Int, K = idxB X := ⟨_, rfl⟩
        rw [← hX] at HDi HIX hb
        rw [← hK] at HIX hb
        cases hs : sg l[i] with
        | true =>
          have hi := idx_sg hs
          rw [← hb] at hi
          have HL := hid (HG.out.found hill hs)
          clear hb hs hX hK ha HI HD
          have hiz : (i : Int) + 1 ≤ (T.size : Int) := by omega
          go_wp2_with fail
          refine HDi.out.mono ?_; rintro e w2 ⟨rfl, hh⟩
          have HB2 := hid (HB.out.trans (hh.mono HB.out.size))
          clear hh
          go_wp2_with fail
          refine (HIX.out _).mono ?_; rintro e w3 ⟨rfl, hh⟩
          have HB3 := hid (HB2.out.trans (hh.out.mono HB2.out.size))
          clear hh
          go_wp2_with fail
          go_ret
          exact ⟨⟨i, rfl, HL.out⟩, HB3.out⟩
        | false =>
          have hi := idx_no hs
          rw [← hb] at hi
          have HL := hid (HG.out.next hill hs)
          rw [hi] at HIX
          clear hb hs hX hK ha HI HD hi K
          have hiz : (i : Int) + 1 ≤ (T.size : Int) := by omega
          go_wp2_with fail
          refine HDi.out.mono ?_; rintro e w2 ⟨rfl, hh⟩
          have HB2 := hid (HB.out.trans (hh.mono HB.out.size))
          clear hh
          go_wp2_with fail
          refine (HIX.out _).mono ?_; rintro e w3 ⟨rfl, hh⟩
          have HB3 := hid (HB2.out.trans (hh.out.mono HB2.out.size))
          clear hh
          go_wp2_with fail
          go_roundg (gk - 1)
          case measure => omega
          case rel => exact ⟨i, by first | rfl | simp, by omega, by omega, HL.out, HB3.out⟩
      · have hoth := HG.out.other hill (by omega)
        obtain ⟨d1, d2⟩ := Lib.decodeLastL_width (l.take (i + 1)) (by simp; omega)
        rw [List.length_take] at d2
        have d3 : (Lib.decodeLastL (l.take (i + 1))).2 ≤ i + 1 := by omega
        have HIX := hid (HI.out (Lib.decodeLastL (l.take (i + 1))).1)
        obtain ⟨R, D, hRD⟩ : ∃ R D, Lib.decodeLastL (l.take (i + 1)) = (R, D) := ⟨_, _, rfl⟩
        rw [hRD] at HDi HIX d1 d3
        have HO : Hid (∀ k : Nat, k ≤ i → LastAt l k) := fun k hk => none_at (by omega) (by omega) hoth
        have HO2 : Hid (∀ k : Nat, Ahead l k) := fun k a c d e h2 h3 => (hoth a c d e h2 h3).elim
        clear hoth d2 hRD ha HI HD
        dsimp only at HDi HIX d1 d3
        generalize idxB R = K at *
        have hiz : (i : Int) + 1 ≤ (T.size : Int) := by omega
        have d1z : (1 : Int) ≤ (D : Int) := by omega
        have d3z : (D : Int) ≤ (i : Int) + 1 := by omega
        obtain ⟨m, hm⟩ : ∃ m : Nat, i + 1 = m + D := ⟨i + 1 - D, by omega⟩
        have hmz : (i : Int) + 1 - (D : Int) = (m : Int) := by omega
        have Hm := hid hm
        clear hm
        by_cases hK : 0 ≤ K
        · go_wp2_with fail
          refine HDi.out.mono ?_; rintro e w2 ⟨rfl, hh⟩
          have HB2 := hid (HB.out.trans (hh.mono HB.out.size))
          clear hh
          go_wp2_with fail
          refine (HIX.out _).mono ?_; rintro e w3 ⟨rfl, hh⟩
          have HB3 := hid (HB2.out.trans (hh.out.mono HB2.out.size))
          clear hh
          go_wp2_with fail
          go_ret
          exact ⟨⟨m, by first | rfl | (rw [hmz]), HO.out m (by have := Hm.out; omega)⟩, HB3.out⟩
        · go_wp2_with fail
          refine HDi.out.mono ?_; rintro e w2 ⟨rfl, hh⟩
          have HB2 := hid (HB.out.trans (hh.mono HB.out.size))
          clear hh
          go_wp2_with fail
          refine (HIX.out _).mono ?_; rintro e w3 ⟨rfl, hh⟩
          have HB3 := hid (HB2.out.trans (hh.out.mono HB2.out.size))
          clear hh
          go_wp2_with fail
          go_roundg (gk - 1)
          case measure => omega
          case rel => exact ⟨m, by first | rfl | (rw [hmz]), by have := Hm.out; omega, by omega, HO2.out m, HB3.out⟩
/-- strings.LastIndexAny of any text and both signs -/
theorem last_any (l : List UInt8) (w : World) (hE : Envs w) (hl : l.length ≤ 9223372036854775807) : Calls Tryd.prog 31 #[.string ⟨l.toArray⟩, .string ⟨#[43, 45]⟩] w fun e w' => (∃ k, e = .returned (.int .i64 k) ∧ LastAt l k) ∧ Hid (Below w.heap.size w w') := by
  by_cases h1 : l.length = 1
  · exact last_one l w h1
  · by_cases h8 : l.length ≤ 8
    · exact last_short l w hE h1 h8
    · exact last_long l w (by omega) hl

end Go.Proofs.YtenncfohifekhaaDoor
