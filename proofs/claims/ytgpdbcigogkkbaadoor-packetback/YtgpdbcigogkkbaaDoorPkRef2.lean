/- The document's Encode, and the number that bytes are. -/
import Derived.Test.YtgpdbcigogkkbaaDoorPkRef1
import Derived.Test.YtgpdbcigogkkbaaDoorPkCut
namespace Go.Proofs.YtgpdbcigogkkbaaDoor
open Go.RowKit
open Slot

/-- the document's Print -/
theorem rprint_ct (S : Nat → Bool) (w : World) : Calls Tryd.prog 19 #[.agg (cellsOf S)] w fun e w' => e = .returned (.string ⟨(ctext S).toArray⟩) ∧ Below w.heap.size w w' := by
  refine (rPrint_any S w).mono ?_
  rintro e w' ⟨⟨l, hl, rfl⟩, hb⟩
  exact ⟨by rw [ctext_eq hl], hb⟩
theorem row_own {B g cap : Nat} {W : World} {T : Bs} (h : W.ownsRow B 5 1 (.slice (some ⟨g, 0, none⟩) T.length cap) T.length (Lib.byteCells T)) (hT : T.length ≤ 300000) : Row W (some ⟨g, 0, none⟩) (T.map UInt8.toBitVec) := by
  refine ⟨by rw [List.length_map]; omega, fun _ => ⟨g, 0, rfl, fun j hj => ?_⟩⟩
  rw [List.length_map] at hj
  have := World.ownsRow.cells h (g := g) rfl j (.int .u8 (T[j].toNat : Int)) (by simp [Lib.byteCells, hj])
  rw [Go.WideShapes.add_plain] at this
  rw [this]
  simp [List.getD, hj]
theorem rsum_txt {B : Nat} {W : World} {v : Value} {T : Bs} (h : W.ownsRow B 5 1 v T.length (Lib.byteCells T)) (hT : T.length ≤ 300000) : Calls Tryd.prog 21 #[v] W fun e w' => e = .returned (.int .u16 (sumN T : Int)) ∧ w' = W := by
  rcases h.2 with ⟨rfl, h0⟩ | ⟨g, cap, cur, rfl, _⟩
  · obtain rfl : T = [] := List.length_eq_zero_iff.1 h0
    exact rsum_any Option.none 0 [] W ⟨by simp, fun h => absurd rfl h⟩
  · have := rsum_any (some ⟨g, 0, none⟩) cap (T.map UInt8.toBitVec) W (row_own h hT)
    rw [List.length_map] at this
    exact this
set_option maxHeartbeats 1000000 in
theorem rencode_bad (p : Pk) (w : World) (hr : rightP p = false) : Calls Tryd.prog 10 #[.agg (pkCells p)] w fun e w' => e = .returned (.tuple #[.string ⟨#[]⟩, .int .i64 140]) ∧ Below w.heap.size w w' := by
  have HP := hid (pbox_new w p)
  have HW := hid (below_alloc w (.cells (pkCells p) 26))
  have HR := hid (rright_any p)
  rw [hr] at HR
  clear hr
  go_enter Tryd.func10, Tryd.ntmps10
  go_wp2_with (refine wpList_load_row rfl 26 _ rfl w.heap.size rfl 26 _ (0, 0) _ HP.out Tryd.underlying26 rfl (infoPk _) (Hid.out ?_))
  refine hid ?_
  go_wp2_with fail
  refine (HR.out _).mono ?_; rintro e w1 ⟨rfl, hb⟩
  have HW1 := hid (HW.out.trans (hb.mono HW.out.size))
  clear hb
  go_wp2
  go_ret2
  exact ⟨rfl, HW1.out⟩
theorem three_own {w : World} {k f o : Nat} (hk : k < 64) (hf : f < 64) (ho : o < 64) : (w.alloc (.cells #[.int .u8 (k : Int), .int .u8 (f : Int), .int .u8 (o : Int)] 5)).ownsRow w.heap.size 5 1 (.slice (some ⟨w.heap.size, 0, none⟩) (be 1 k ++ be 1 f ++ be 1 o).length 3) (be 1 k ++ be 1 f ++ be 1 o).length (Lib.byteCells (be 1 k ++ be 1 f ++ be 1 o)) := by
  have e : ∀ n, n < 64 → Lib.byteCells (be 1 n) = [.int .u8 (n : Int)] := fun n hn => by
    simp only [be, Lib.byteCells, Nat.pow_zero, Nat.div_one, List.map_cons, List.map_nil]
    rw [UInt8.toNat_ofNat', Nat.mod_eq_of_lt (by omega)]
  rw [Lib.byteCells_append, Lib.byteCells_append, e k hk, e f hf, e o ho]
  have hl : (be 1 k ++ be 1 f ++ be 1 o).length = 3 := by simp [be_len]
  rw [hl]
  exact ⟨rfl, .inr ⟨w.heap.size, 3, _, rfl, Nat.le_refl _, heap_alloc_new w _, Nat.le_refl _, by unfold maxLen; omega, rfl, rfl⟩⟩
set_option maxHeartbeats 4000000 in
set_option maxRecDepth 100000 in
theorem rencode_good (p : Pk) (k f o : Nat) (w : World) (hr : rightP p = true) (hk : p.kind = k) (hf : p.frm = f) (ho : p.of_ = o) (hk6 : k < 64) (hf6 : f < 64) (ho6 : o < 64) (hep : p.epoch < 18446744073709551616) (hcu : p.cur < 18446744073709551616) :
    Calls Tryd.prog 10 #[.agg (pkCells p)] w fun e w' => e = .returned (.tuple #[.string ⟨(enc p).toArray⟩, .int .i64 0]) ∧ Below w.heap.size w w' := by
  have HP := hid (pbox_new w p)
  have HW := hid (below_alloc w (.cells (pkCells p) 26))
  have HR := hid (rright_any p)
  rw [hr] at HR
  have HPr := hid (rprint_ct p.cl)
  have HB8 : Hid (∀ (n : Nat) (w : World), n < 18446744073709551616 → Calls Tryd.prog 20 #[.int .u64 n, .int .i64 8] w fun e w' => ∃ v, e = .returned v ∧ Txt w.heap.size w w' v (be 8 n)) := fun n w h => rbytes_any 8 n (by decide) h w
  have HB2 : Hid (∀ (n : Nat) (w : World), n < 18446744073709551616 → Calls Tryd.prog 20 #[.int .u64 n, .int .i64 2] w fun e w' => ∃ v, e = .returned v ∧ Txt w.heap.size w w' v (be 2 n)) := fun n w h => rbytes_any 2 n (by decide) h w
  have hct := ctext_len p.cl
  have HEp := hid hep
  have HCu := hid hcu
  have HEnc : Hid (enc p = (be 1 k ++ be 1 f ++ be 1 o ++ be 8 p.epoch ++ be 8 p.cur ++ be 2 (ctext p.cl).length ++ ctext p.cl) ++ be 2 (sumN (be 1 k ++ be 1 f ++ be 1 o ++ be 8 p.epoch ++ be 8 p.cur ++ be 2 (ctext p.cl).length ++ ctext p.cl))) := by
    have : headP p = be 1 k ++ be 1 f ++ be 1 o ++ be 8 p.epoch ++ be 8 p.cur ++ be 2 (ctext p.cl).length ++ ctext p.cl := by
      simp [headP, front, hk, hf, ho]
    show enc p = _
    rw [← this]; rfl
  have HL8 := hid (be_len 8)
  have HL2 := hid (be_len 2)
  have HL3 : Hid ((be 1 k ++ be 1 f ++ be 1 o).length = 3) := by show _ = _; simp [be_len]
  generalize ctext p.cl = T at *
  have H3 : Hid (∀ w : World, (w.alloc (.cells #[.int .u8 (k : Int), .int .u8 (f : Int), .int .u8 (o : Int)] 5)).ownsRow w.heap.size 5 1 (.slice (some ⟨w.heap.size, 0, none⟩) 3 3) 3 (Lib.byteCells (be 1 k ++ be 1 f ++ be 1 o))) := fun w => by
    have := three_own (w := w) hk6 hf6 ho6
    rwa [HL3.out] at this
  generalize be 1 k ++ be 1 f ++ be 1 o = A at *
  generalize hE8 : be 8 p.epoch = E8 at *
  generalize hC8 : be 8 p.cur = C8 at *
  have l8 : E8.length = 8 := by rw [← hE8]; exact HL8.out _
  have m8 : C8.length = 8 := by rw [← hC8]; exact HL8.out _
  have HE8 := hid hE8
  have HC8 := hid hC8
  have HK8 := hid l8
  have HM8 := hid m8
  clear hr hep hcu hE8 hC8 l8 m8
  go_enter Tryd.func10, Tryd.ntmps10
  go_wp2_with (refine wpList_load_row rfl 26 _ rfl w.heap.size rfl 26 _ (0, 0) _ HP.out Tryd.underlying26 rfl (infoPk _) (Hid.out ?_))
  refine hid ?_
  go_wp2_with fail
  refine (HR.out _).mono ?_; rintro e w1 ⟨rfl, hb⟩
  have HP1 := hid (HP.out.below hb HP.out.lt)
  have HW1 := hid (HW.out.trans (hb.mono HW.out.size))
  clear hb
  go_wp2_with (refine wpList_load_mid rfl 24 _ rfl w.heap.size 5 rfl _ _ HP1.out.range Tryd.underlying24 rfl (infoCl _) (Hid.out ?_))
  refine hid ?_
  go_wp2_with fail
  refine (HPr.out _).mono ?_; rintro e w2 ⟨rfl, hb⟩
  have HP2 := hid (HP1.out.below hb HP1.out.lt)
  have HW2 := hid (HW1.out.trans (hb.mono HW1.out.size))
  clear hb
  obtain ⟨c0, c1, c2, c3, c4⟩ := HP2.out.cells
  rw [hk] at c0
  rw [hf] at c1
  rw [ho] at c2
  have k8 : IntKind.u8.wrap (k : Int) = k := by rw [IntKind.wrap_u8]; omega
  have f8 : IntKind.u8.wrap (f : Int) = f := by rw [IntKind.wrap_u8]; omega
  have o8 : IntKind.u8.wrap (o : Int) = o := by rw [IntKind.wrap_u8]; omega
  have kz : (k : Int) ≤ 255 := by omega
  have fz : (f : Int) ≤ 255 := by omega
  have oz : (o : Int) ≤ 255 := by omega
  have O3 := hid (H3.out w2)
  have HW3 := hid (HW2.out.trans ((below_alloc w2 (.cells #[.int .u8 (k : Int), .int .u8 (f : Int), .int .u8 (o : Int)] 5)).mono HW2.out.size))
  have HP3 : Hid (PBox (w2.alloc (.cells #[.int .u8 (k : Int), .int .u8 (f : Int), .int .u8 (o : Int)] 5)) w.heap.size p) := (heap_alloc_old w2 _ HP2.out.lt).trans HP2.out
  obtain ⟨-, -, -, d3, d4⟩ := HP3.out.cells
  clear HP HW HR HPr HP1 HW1 H3
  go_wp2_with fail
  refine (HB8.out p.epoch _ HEp.out).mono ?_; rintro e w4 ⟨v1, rfl, hT1⟩
  have B4 := hid (hT1.bel)
  have O4 := hid (owns_below O3.out hT1.bel)
  rw [HE8.out] at hT1
  have T1 := hid hT1.own
  have HP4 := hid (HP3.out.below hT1.bel HP3.out.lt)
  have HW4 := hid (HW3.out.trans (hT1.bel.mono HW3.out.size))
  have Z4 : Hid (w2.heap.size ≤ w4.heap.size) := by have := hT1.bel.size; simp at this; show _ ≤ _; omega
  obtain ⟨-, -, -, -, e4⟩ := HP4.out.cells
  clear hT1 c0 c1 c2 c3 c4 d3 d4
  go_wp2_with fail
  refine (HB8.out p.cur _ HCu.out).mono ?_; rintro e w5 ⟨v2, rfl, hT2⟩
  have O5 := hid (owns_below O4.out hT2.bel)
  have S1 := hid (owns_below T1.out hT2.bel)
  rw [HC8.out] at hT2
  have T2 := hid hT2.own
  have HW5 := hid (HW4.out.trans (hT2.bel.mono HW4.out.size))
  have Z5 : Hid (w2.heap.size ≤ w5.heap.size) := Nat.le_trans Z4.out hT2.bel.size
  clear hT2 e4
  have tl : IntKind.u64.wrap (T.length : Int) = T.length := wrap64 (by omega)
  go_wp2_with fail
  refine (HB2.out T.length _ (by omega)).mono ?_; rintro e w6 ⟨v3, rfl, hT3⟩
  have O6 := hid (owns_below O5.out hT3.bel)
  have S11 := hid (owns_below S1.out hT3.bel)
  have S2 := hid (owns_below T2.out hT3.bel)
  have HW6 := hid (HW5.out.trans (hT3.bel.mono HW5.out.size))
  have Z6 : Hid (w2.heap.size ≤ w6.heap.size) := Nat.le_trans Z5.out hT3.bel.size
  have l2 : (be 2 T.length).length = 2 := HL2.out _
  generalize be 2 T.length = N2 at *
  have T3 := hid hT3.own
  have HL := hid l2
  clear hT3 l2
  obtain ⟨v7, w7, hr7, h7⟩ := row_grow (T := A) (S := E8) (by have := O6.out; rwa [HL3.out]) Z6.out S11.out (fun e => by have := HK8.out; rw [e] at this; cases this) (by have := HK8.out; have := HL3.out; omega) (by have := HK8.out; have := HL3.out; omega)
  rw [HL3.out] at hr7
  obtain ⟨v8, w8, hr8, h8⟩ := h7.row (owns_below S2.out h7.bel) (by have := HK8.out; have := HL3.out; have := HM8.out; simp only [List.length_append]; omega)
  obtain ⟨v9, w9, hr9, h9⟩ := h8.row (owns_below T3.out h8.bel) (by have := HK8.out; have := HL3.out; have := HM8.out; have := HL.out; simp only [List.length_append]; omega)
  obtain ⟨v10, w10, hr10, h10⟩ := h9.str T (by have := HK8.out; have := HL3.out; have := HM8.out; have := HL.out; simp only [List.length_append]; omega)
  have HR7 := hid hr7
  have HR8 := hid hr8
  have HR9 := hid hr9
  have HR10 := hid hr10
  have HW10 := hid (HW6.out.trans (h10.bel.mono HW6.out.size))
  have HLen : Hid ((A ++ E8 ++ C8 ++ N2 ++ T).length ≤ 100000) := by
    have := HK8.out; have := HL3.out; have := HM8.out; have := HL.out
    show _ ≤ _
    simp only [List.length_append]; omega
  have HSum := hid (rsum_txt h10.own (by have := HLen.out; omega))
  have HT10 := hid h10
  clear hr7 hr8 hr9 hr10 h7 h8 h9 h10
  generalize A ++ E8 ++ C8 ++ N2 ++ T = H at *
  have hz := sumN_lt H
  generalize sumN H = z at *
  have zl : IntKind.u64.wrap (z : Int) = z := wrap64 (by omega)
  go_wp2_with (at_builtin; refine wpList_append_run rfl _ _ 36 rfl _ _ _ _ rfl rfl HR7.out (Hid.out ?_))
  refine hid ?_
  go_wp2_with (at_builtin; refine wpList_append_run rfl _ _ 36 rfl _ _ _ _ rfl rfl HR8.out (Hid.out ?_))
  refine hid ?_
  go_wp2_with (at_builtin; refine wpList_append_run rfl _ _ 36 rfl _ _ _ _ rfl rfl HR9.out (Hid.out ?_))
  refine hid ?_
  go_wp2_with (at_builtin; refine wpList_append_runs rfl _ _ 36 9 rfl _ _ _ _ rfl rfl HR10.out (Hid.out ?_))
  refine hid ?_
  clear HR7 HR8 HR9 HR10
  go_wp2_with fail
  refine HSum.out.mono ?_; rintro e w11 ⟨rfl, rfl⟩
  go_wp2_with fail
  refine (HB2.out z _ (by omega)).mono ?_; rintro e w12 ⟨v4, rfl, hT4⟩
  have HW12 := hid (HW10.out.trans (hT4.bel.mono HW10.out.size))
  obtain ⟨v13, w13, hr13, h13⟩ := (HT10.out.below hT4.bel).row hT4.own (by have := HL2.out z; have := HLen.out; omega)
  have HR13 := hid hr13
  have HCv := owns_string h13.own
  have HW13 := hid (HW6.out.trans (h13.bel.mono HW6.out.size))
  clear hr13 h13 hT4
  go_wp2_with (at_builtin; refine wpList_append_run rfl _ _ 36 rfl _ _ _ _ rfl rfl HR13.out (Hid.out ?_))
  refine hid ?_
  go_wp2_with fail
  go_ret2
  exact ⟨congrArg (fun b : Bs => Ending.returned (.tuple #[.string ⟨b.toArray⟩, .int .i64 0])) HEnc.out.symm, HW13.out⟩
/-- the document's Encode -/
theorem rencode_any (p : Pk) (w : World) (hep : p.epoch < 18446744073709551616) (hcu : p.cur < 18446744073709551616) : Calls Tryd.prog 10 #[.agg (pkCells p)] w fun e w' => e = .returned (.tuple #[.string ⟨(encS p).toArray⟩, .int .i64 (encE p)]) ∧ Below w.heap.size w w' := by
  unfold encS encE
  cases h : rightP p
  · exact rencode_bad p w h
  · obtain ⟨h1, h2, h3, _⟩ := rightP_iff.1 h
    exact rencode_good p p.kind.toNat p.frm.toNat p.of_.toNat w h (by omega) (by omega) (by omega) (by omega) (by omega) (by omega) hep hcu
set_option maxHeartbeats 1000000 in
/-- the document's number -/
theorem rnumber_any (s : Bs) (hs : s.length ≤ 8) (w : World) : Calls Tryd.prog 27 #[.string ⟨s.toArray⟩] w fun e w' => e = .returned (.int .u64 (nb s : Int)) ∧ w' = w := by
  go_enter Tryd.func27, Tryd.ntmps27
  go_wp2
  go_loop [3, 4] (fun d i => ∃ k : Nat, k ≤ s.length ∧ i = .int .i64 k ∧ d = .int .u64 (nb (s.take k) : Int)) (fun _ i => s.length - (intOf i).toNat)
  case atStart => exact ⟨0, Nat.zero_le _, rfl, rfl⟩
  case round =>
    obtain ⟨k, hk, rfl, rfl⟩ := hrel
    by_cases hlt : k < s.length
    · have hx := fun W => index_at s k hlt W
      have hn := nb_small (s.take k) (by rw [List.length_take]; omega)
      have HN : Hid (nb (s.take (k + 1)) = nb (s.take k) * 256 + s[k].toNat) := by rw [List.take_succ_eq_append_getElem hlt]; exact nb_snoc _ _
      have hb := s[k].toNat_lt
      generalize nb (s.take k) = M at *
      generalize s[k].toNat = x at *
      go_wp2
      go_round
      case rel => exact ⟨k + 1, by omega, by go_num, by rw [HN.out]; exact congrArg (Value.int .u64) (by omega)⟩
      case measure => simp [intOf]; omega
    · have e : s.take k = s := List.take_of_length_le (by omega)
      rw [e]
      go_wp2
      go_ret
      exact ⟨rfl, rfl⟩

end Go.Proofs.YtgpdbcigogkkbaaDoor
