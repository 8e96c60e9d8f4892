/- PkRef2, PkDec, PkAlive, RefParse, LaidB, OpenPk. -/
import Derived.Test.YtbfllifgmlkndaaGreatDoorM15
import Derived.Test.YtbfllifgmlkndaaGreatDoorM12
import Derived.Test.YtbfllifgmlkndaaGreatDoorM09
import Derived.Test.YtbfllifgmlkndaaGreatDoorRows
import Derived.Lib.LaidTab
import Derived.Stop.LaidErr
import Derived.MakeChecks
import Derived.LaidLaws
import Derived.Test.YtbfllifgmlkndaaGreatDoorM10
import Derived.ChangeArms
import Derived.Test.YtbfllifgmlkndaaGreatDoorM05
import Derived.Test.YtbfllifgmlkndaaGreatDoorM11
namespace Go.Proofs.YtbfllifgmlkndaaGreatDoor
open Go.RowKit
open Slot

/-- the document's Print -/
theorem rprint_ct (S : Nat → Bool) (w : World) : Calls Tryz.prog 62 #[.agg (cellsOf S)] w fun e w' => e = .returned (.string ⟨(ctext S).toArray⟩) ∧ Below w.heap.size w w' := by
  refine (rPrint_any S w).mono ?_
  rintro e w' ⟨⟨l, hl, rfl⟩, hb⟩
  exact ⟨by rw [ctext_eq hl], hb⟩
theorem row_own {B g cap : Nat} {W : World} {T : Bs} (h : W.ownsRow B 5 1 (.slice (some ⟨g, 0, none⟩) T.length cap) T.length (Lib.byteCells T)) (hT : T.length ≤ 300000) : Row W (some ⟨g, 0, none⟩) (T.map UInt8.toBitVec) := by
  refine ⟨by rw [List.length_map]; omega, fun _ => ⟨g, 0, rfl, fun j hj => ?_⟩⟩
  rw [List.length_map] at hj
  have := World.ownsRow.cells h (g := g) rfl j (.int .u8 (T[j].toNat : Int)) (by simp [Lib.byteCells, hj])
  rw [Go.WideShapes.add_plain] at this
  rw [this]
  simp [List.getD, hj]
theorem rsum_txt {B : Nat} {W : World} {v : Value} {T : Bs} (h : W.ownsRow B 5 1 v T.length (Lib.byteCells T)) (hT : T.length ≤ 300000) : Calls Tryz.prog 65 #[v] W fun e w' => e = .returned (.int .u16 (sumN T : Int)) ∧ w' = W := by
  rcases h.2 with ⟨rfl, h0⟩ | ⟨g, cap, cur, rfl, _⟩
  · obtain rfl : T = [] := List.length_eq_zero_iff.1 h0
    exact rsum_any Option.none 0 [] W ⟨by simp, fun h => absurd rfl h⟩
  · have := rsum_any (some ⟨g, 0, none⟩) cap (T.map UInt8.toBitVec) W (row_own h hT)
    rw [List.length_map] at this
    exact this
set_option maxHeartbeats 1000000 in
theorem rencode_bad (p : Pk) (w : World) (hr : rightP p = false) : Calls Tryz.prog 39 #[.agg (pkCells p)] w fun e w' => e = .returned (.tuple #[.string ⟨#[]⟩, .int .i64 140]) ∧ Below w.heap.size w w' := by
  have HP := hid (pbox_new w p)
  have HW := hid (below_alloc w (.cells (pkCells p) 53))
  have HR := hid (rright_any p)
  rw [hr] at HR
  clear hr
  go_enter Tryz.func39, Tryz.ntmps39
  go_wp2_with (refine wpList_load_row rfl 53 _ rfl w.heap.size rfl 53 _ (0, 0) _ HP.out Tryz.underlying53 rfl (infoPk _) (Hid.out ?_))
  refine hid ?_
  go_wp2_with fail
  refine (HR.out _).mono ?_; rintro e w1 ⟨rfl, hb⟩
  have HW1 := hid (HW.out.trans (hb.mono HW.out.size))
  clear hb
  go_wp2
  go_ret2
  exact ⟨rfl, HW1.out⟩
theorem three_own {w : World} {k f o : Nat} (hk : k < 64) (hf : f < 64) (ho : o < 64) : (w.alloc (.cells #[.int .u8 (k : Int), .int .u8 (f : Int), .int .u8 (o : Int)] 5)).ownsRow w.heap.size 5 1 (.slice (some ⟨w.heap.size, 0, none⟩) (be 1 k ++ be 1 f ++ be 1 o).length 3) (be 1 k ++ be 1 f ++ be 1 o).length (Lib.byteCells (be 1 k ++ be 1 f ++ be 1 o)) := by
  have e : ∀ n, n < 64 → Lib.byteCells (be 1 n) = [.int .u8 (n : Int)] := fun n hn => by
    simp only [be, Lib.byteCells, Nat.pow_zero, Nat.div_one, List.map_cons, List.map_nil]
    rw [UInt8.toNat_ofNat', Nat.mod_eq_of_lt (by omega)]
  rw [Lib.byteCells_append, Lib.byteCells_append, e k hk, e f hf, e o ho]
  have hl : (be 1 k ++ be 1 f ++ be 1 o).length = 3 := by simp [be_len]
  rw [hl]
  exact ⟨rfl, .inr ⟨w.heap.size, 3, _, rfl, Nat.le_refl _, heap_alloc_new w _, Nat.le_refl _, by unfold maxLen; omega, rfl, rfl⟩⟩
set_option maxHeartbeats 4000000 in
set_option maxRecDepth 100000 in
theorem rencode_good (p : Pk) (k f o : Nat) (w : World) (hr : rightP p = true) (hk : p.kind = k) (hf : p.frm = f) (ho : p.of_ = o) (hk6 : k < 64) (hf6 : f < 64) (ho6 : o < 64) (hep : p.epoch < 18446744073709551616) (hcu : p.cur < 18446744073709551616) :
    Calls Tryz.prog 39 #[.agg (pkCells p)] w fun e w' => e = .returned (.tuple #[.string ⟨(enc p).toArray⟩, .int .i64 0]) ∧ Below w.heap.size w w' := by
  have HP := hid (pbox_new w p)
  have HW := hid (below_alloc w (.cells (pkCells p) 53))
  have HR := hid (rright_any p)
  rw [hr] at HR
  have HPr := hid (rprint_ct p.cl)
  have HB8 : Hid (∀ (n : Nat) (w : World), n < 18446744073709551616 → Calls Tryz.prog 64 #[.int .u64 n, .int .i64 8] w fun e w' => ∃ v, e = .returned v ∧ Txt w.heap.size w w' v (be 8 n)) := fun n w h => rbytes_any 8 n (by decide) h w
  have HB2 : Hid (∀ (n : Nat) (w : World), n < 18446744073709551616 → Calls Tryz.prog 64 #[.int .u64 n, .int .i64 2] w fun e w' => ∃ v, e = .returned v ∧ Txt w.heap.size w w' v (be 2 n)) := fun n w h => rbytes_any 2 n (by decide) h w
  have hct := ctext_len p.cl
  have HEp := hid hep
  have HCu := hid hcu
  have HEnc : Hid (enc p = (be 1 k ++ be 1 f ++ be 1 o ++ be 8 p.epoch ++ be 8 p.cur ++ be 2 (ctext p.cl).length ++ ctext p.cl) ++ be 2 (sumN (be 1 k ++ be 1 f ++ be 1 o ++ be 8 p.epoch ++ be 8 p.cur ++ be 2 (ctext p.cl).length ++ ctext p.cl))) := by
    have : headP p = be 1 k ++ be 1 f ++ be 1 o ++ be 8 p.epoch ++ be 8 p.cur ++ be 2 (ctext p.cl).length ++ ctext p.cl := by
      simp [headP, front, hk, hf, ho]
    show enc p = _
    rw [← this]; rfl
  have HL8 := hid (be_len 8)
  have HL2 := hid (be_len 2)
  have HL3 : Hid ((be 1 k ++ be 1 f ++ be 1 o).length = 3) := by show _ = _; simp [be_len]
  generalize ctext p.cl = T at *
  have H3 : Hid (∀ w : World, (w.alloc (.cells #[.int .u8 (k : Int), .int .u8 (f : Int), .int .u8 (o : Int)] 5)).ownsRow w.heap.size 5 1 (.slice (some ⟨w.heap.size, 0, none⟩) 3 3) 3 (Lib.byteCells (be 1 k ++ be 1 f ++ be 1 o))) := fun w => by
    have := three_own (w := w) hk6 hf6 ho6
    rwa [HL3.out] at this
  generalize be 1 k ++ be 1 f ++ be 1 o = A at *
  generalize hE8 : be 8 p.epoch = E8 at *
  generalize hC8 : be 8 p.cur = C8 at *
  have l8 : E8.length = 8 := by rw [← hE8]; exact HL8.out _
  have m8 : C8.length = 8 := by rw [← hC8]; exact HL8.out _
  have HE8 := hid hE8
  have HC8 := hid hC8
  have HK8 := hid l8
  have HM8 := hid m8
  clear hr hep hcu hE8 hC8 l8 m8
  go_enter Tryz.func39, Tryz.ntmps39
  go_wp2_with (refine wpList_load_row rfl 53 _ rfl w.heap.size rfl 53 _ (0, 0) _ HP.out Tryz.underlying53 rfl (infoPk _) (Hid.out ?_))
  refine hid ?_
  go_wp2_with fail
  refine (HR.out _).mono ?_; rintro e w1 ⟨rfl, hb⟩
  have HP1 := hid (HP.out.below hb HP.out.lt)
  have HW1 := hid (HW.out.trans (hb.mono HW.out.size))
  clear hb
  go_wp2_with (refine wpList_load_mid rfl 24 _ rfl w.heap.size 5 rfl _ _ HP1.out.range Tryz.underlying24 rfl (infoCl _) (Hid.out ?_))
  refine hid ?_
  go_wp2_with fail
  refine (HPr.out _).mono ?_; rintro e w2 ⟨rfl, hb⟩
  have HP2 := hid (HP1.out.below hb HP1.out.lt)
  have HW2 := hid (HW1.out.trans (hb.mono HW1.out.size))
  clear hb
  obtain ⟨c0, c1, c2, c3, c4⟩ := HP2.out.cells
  rw [hk] at c0
  rw [hf] at c1
  rw [ho] at c2
  have k8 : IntKind.u8.wrap (k : Int) = k := by rw [IntKind.wrap_u8]; omega
  have f8 : IntKind.u8.wrap (f : Int) = f := by rw [IntKind.wrap_u8]; omega
  have o8 : IntKind.u8.wrap (o : Int) = o := by rw [IntKind.wrap_u8]; omega
  have kz : (k : Int) ≤ 255 := by omega
  have fz : (f : Int) ≤ 255 := by omega
  have oz : (o : Int) ≤ 255 := by omega
  have O3 := hid (H3.out w2)
  have HW3 := hid (HW2.out.trans ((below_alloc w2 (.cells #[.int .u8 (k : Int), .int .u8 (f : Int), .int .u8 (o : Int)] 5)).mono HW2.out.size))
  have HP3 : Hid (PBox (w2.alloc (.cells #[.int .u8 (k : Int), .int .u8 (f : Int), .int .u8 (o : Int)] 5)) w.heap.size p) := (heap_alloc_old w2 _ HP2.out.lt).trans HP2.out
  obtain ⟨-, -, -, d3, d4⟩ := HP3.out.cells
  clear HP HW HR HPr HP1 HW1 H3
  go_wp2_with fail
  refine (HB8.out p.epoch _ HEp.out).mono ?_; rintro e w4 ⟨v1, rfl, hT1⟩
  have B4 := hid (hT1.bel)
  have O4 := hid (owns_below O3.out hT1.bel)
  rw [HE8.out] at hT1
  have T1 := hid hT1.own
  have HP4 := hid (HP3.out.below hT1.bel HP3.out.lt)
  have HW4 := hid (HW3.out.trans (hT1.bel.mono HW3.out.size))
  have Z4 : Hid (w2.heap.size ≤ w4.heap.size) := by have := hT1.bel.size; simp at this; show _ ≤ _; omega
  obtain ⟨-, -, -, -, e4⟩ := HP4.out.cells
  clear hT1 c0 c1 c2 c3 c4 d3 d4
  go_wp2_with fail
  refine (HB8.out p.cur _ HCu.out).mono ?_; rintro e w5 ⟨v2, rfl, hT2⟩
  have O5 := hid (owns_below O4.out hT2.bel)
  have S1 := hid (owns_below T1.out hT2.bel)
  rw [HC8.out] at hT2
  have T2 := hid hT2.own
  have HW5 := hid (HW4.out.trans (hT2.bel.mono HW4.out.size))
  have Z5 : Hid (w2.heap.size ≤ w5.heap.size) := Nat.le_trans Z4.out hT2.bel.size
  clear hT2 e4
  have tl : IntKind.u64.wrap (T.length : Int) = T.length := wrap64 (by omega)
  go_wp2_with fail
  refine (HB2.out T.length _ (by omega)).mono ?_; rintro e w6 ⟨v3, rfl, hT3⟩
  have O6 := hid (owns_below O5.out hT3.bel)
  have S11 := hid (owns_below S1.out hT3.bel)
  have S2 := hid (owns_below T2.out hT3.bel)
  have HW6 := hid (HW5.out.trans (hT3.bel.mono HW5.out.size))
  have Z6 : Hid (w2.heap.size ≤ w6.heap.size) := Nat.le_trans Z5.out hT3.bel.size
  have l2 : (be 2 T.length).length = 2 := HL2.out _
  generalize be 2 T.length = N2 at *
  have T3 := hid hT3.own
  have HL := hid l2
  clear hT3 l2
  obtain ⟨v7, w7, hr7, h7⟩ := row_grow (T := A) (S := E8) (by have := O6.out; rwa [HL3.out]) Z6.out S11.out (fun e => by have := HK8.out; rw [e] at this; cases this) (by have := HK8.out; have := HL3.out; omega) (by have := HK8.out; have := HL3.out; omega)
  rw [HL3.out] at hr7
  obtain ⟨v8, w8, hr8, h8⟩ := h7.row (owns_below S2.out h7.bel) (by have := HK8.out; have := HL3.out; have := HM8.out; simp only [List.length_append]; omega)
  obtain ⟨v9, w9, hr9, h9⟩ := h8.row (owns_below T3.out h8.bel) (by have := HK8.out; have := HL3.out; have := HM8.out; have := HL.out; simp only [List.length_append]; omega)
  obtain ⟨v10, w10, hr10, h10⟩ := h9.str T (by have := HK8.out; have := HL3.out; have := HM8.out; have := HL.out; simp only [List.length_append]; omega)
  have HR7 := hid hr7
  have HR8 := hid hr8
  have HR9 := hid hr9
  have HR10 := hid hr10
  have HW10 := hid (HW6.out.trans (h10.bel.mono HW6.out.size))
  have HLen : Hid ((A ++ E8 ++ C8 ++ N2 ++ T).length ≤ 100000) := by
    have := HK8.out; have := HL3.out; have := HM8.out; have := HL.out
    show _ ≤ _
    simp only [List.length_append]; omega
  have HSum := hid (rsum_txt h10.own (by have := HLen.out; omega))
  have HT10 := hid h10
  clear hr7 hr8 hr9 hr10 h7 h8 h9 h10
  generalize A ++ E8 ++ C8 ++ N2 ++ T = H at *
  have hz := sumN_lt H
  generalize sumN H = z at *
  have zl : IntKind.u64.wrap (z : Int) = z := wrap64 (by omega)
  go_wp2_with (at_builtin; refine wpList_append_run rfl _ _ 126 rfl _ _ _ _ rfl rfl HR7.out (Hid.out ?_))
  refine hid ?_
  go_wp2_with (at_builtin; refine wpList_append_run rfl _ _ 126 rfl _ _ _ _ rfl rfl HR8.out (Hid.out ?_))
  refine hid ?_
  go_wp2_with (at_builtin; refine wpList_append_run rfl _ _ 126 rfl _ _ _ _ rfl rfl HR9.out (Hid.out ?_))
  refine hid ?_
  go_wp2_with (at_builtin; refine wpList_append_runs rfl _ _ 126 9 rfl _ _ _ _ rfl rfl HR10.out (Hid.out ?_))
  refine hid ?_
  clear HR7 HR8 HR9 HR10
  go_wp2_with fail
  refine HSum.out.mono ?_; rintro e w11 ⟨rfl, rfl⟩
  go_wp2_with fail
  refine (HB2.out z _ (by omega)).mono ?_; rintro e w12 ⟨v4, rfl, hT4⟩
  have HW12 := hid (HW10.out.trans (hT4.bel.mono HW10.out.size))
  obtain ⟨v13, w13, hr13, h13⟩ := (HT10.out.below hT4.bel).row hT4.own (by have := HL2.out z; have := HLen.out; omega)
  have HR13 := hid hr13
  have HCv := owns_string h13.own
  have HW13 := hid (HW6.out.trans (h13.bel.mono HW6.out.size))
  clear hr13 h13 hT4
  go_wp2_with (at_builtin; refine wpList_append_run rfl _ _ 126 rfl _ _ _ _ rfl rfl HR13.out (Hid.out ?_))
  refine hid ?_
  go_wp2_with fail
  go_ret2
  exact ⟨congrArg (fun b : Bs => Ending.returned (.tuple #[.string ⟨b.toArray⟩, .int .i64 0])) HEnc.out.symm, HW13.out⟩
/-- the document's Encode -/
theorem rencode_any (p : Pk) (w : World) (hep : p.epoch < 18446744073709551616) (hcu : p.cur < 18446744073709551616) : Calls Tryz.prog 39 #[.agg (pkCells p)] w fun e w' => e = .returned (.tuple #[.string ⟨(encS p).toArray⟩, .int .i64 (encE p)]) ∧ Below w.heap.size w w' := by
  unfold encS encE
  cases h : rightP p
  · exact rencode_bad p w h
  · obtain ⟨h1, h2, h3, _⟩ := rightP_iff.1 h
    exact rencode_good p p.kind.toNat p.frm.toNat p.of_.toNat w h (by omega) (by omega) (by omega) (by omega) (by omega) (by omega) hep hcu
set_option maxHeartbeats 1000000 in
/-- the document's number -/
theorem rnumber_any (s : Bs) (hs : s.length ≤ 8) (w : World) : Calls Tryz.prog 38 #[.string ⟨s.toArray⟩] w fun e w' => e = .returned (.int .u64 (nb s : Int)) ∧ w' = w := by
  go_enter Tryz.func38, Tryz.ntmps38
  go_wp2
  go_loop [3, 4] (fun d i => ∃ k : Nat, k ≤ s.length ∧ i = .int .i64 k ∧ d = .int .u64 (nb (s.take k) : Int)) (fun _ i => s.length - (intOf i).toNat)
  case atStart => exact ⟨0, Nat.zero_le _, rfl, rfl⟩
  case round =>
    obtain ⟨k, hk, rfl, rfl⟩ := hrel
    by_cases hlt : k < s.length
    · have hx := fun W => index_at s k hlt W
      have hn := nb_small (s.take k) (by rw [List.length_take]; omega)
      have HN : Hid (nb (s.take (k + 1)) = nb (s.take k) * 256 + s[k].toNat) := by rw [List.take_succ_eq_append_getElem hlt]; exact nb_snoc _ _
      have hb := s[k].toNat_lt
      generalize nb (s.take k) = M at *
      generalize s[k].toNat = x at *
      go_wp2
      go_round
      case rel => exact ⟨k + 1, by omega, by go_num, by rw [HN.out]; exact congrArg (Value.int .u64) (by omega)⟩
      case measure => simp [intOf]; omega
    · have e : s.take k = s := List.take_of_length_le (by omega)
      rw [e]
      go_wp2
      go_ret
      exact ⟨rfl, rfl⟩

end Go.Proofs.YtbfllifgmlkndaaGreatDoor

namespace Go.Proofs.YtbfllifgmlkndaaGreatDoor
open Go.RowKit
open Slot

/-- what Decode tells -/
noncomputable def decPk (s : Bs) : Pk := match decP s with
  | some p => p
  | none => zeroP
noncomputable def decE (s : Bs) : Int := match decP s with
  | some _ => 0
  | none => 140
theorem dec_is {s : Bs} {p : Pk} (h : decP s = some p) : decPk s = p ∧ decE s = 0 := by unfold decPk decE; rw [h]; exact ⟨rfl, rfl⟩
theorem dec_not {s : Bs} (h : decP s = none) : decPk s = zeroP ∧ decE s = 140 := by unfold decPk decE; rw [h]; exact ⟨rfl, rfl⟩
set_option maxHeartbeats 2000000 in
theorem decode_short (s : Bs) (w : World) (hs : s.length < 23) : Calls Tryz.prog 40 #[.string ⟨s.toArray⟩] w fun e w' => e = .returned (.tuple #[.agg (pkCells zeroP), .int .i64 140]) ∧ Below w.heap.size w w' := by
  have hz := zeroPk
  have HP := hid (pbox_new w zeroP)
  have HW := hid (below_alloc w (.cells (pkCells zeroP) 53))
  have hl : (s.length : Int) < 23 := by omega
  go_enter Tryz.func40, Tryz.ntmps40
  go_wp2_with (refine wpList_store_row rfl 53 _ _ rfl w.heap.size (pkCells zeroP) rfl rfl 53 _ HP.out (infoPk _) (sizesPk _ _) (onePk _) ?_)
  exact bodyPost_ret (v := .tuple #[.agg (pkCells zeroP), .int .i64 140]) (ret_pk2 rfl rfl rfl (pbox_set HP.out)) rfl ⟨rfl, below_setRow HW.out (Nat.le_refl _) _⟩
set_option maxHeartbeats 2000000 in
set_option maxRecDepth 100000 in
theorem decode_sum (s : Bs) (w : World) (hE : Env w) (h0 : 23 ≤ s.length) (hs : s.length ≤ 281474976710656) (hn : sumN s ≠ 0) : Calls Tryz.prog 40 #[.string ⟨s.toArray⟩] w fun e w' => e = .returned (.tuple #[.agg (pkCells zeroP), .int .i64 140]) ∧ Below w.heap.size w w' := by
  have hz := zeroPk
  have HP := hid (pbox_new w zeroP)
  have HW := hid (below_alloc w (.cells (pkCells zeroP) 53))
  have HE1 := hid (hE.below HW.out hE.room)
  have kc := fun (w : World) (s : ByteArray) => Lib.run_convert_string_bytes (P := Tryz.prog) w 9 126 5 s Tryz.underlying9 Tryz.underlying126 Tryz.underlying5
  have HSu : Hid (∀ (c : Nat) (w : World), Env w → Calls Tryz.prog 66 #[.slice (some ⟨w.heap.size, 0, none⟩) s.length c] (Lib.bytesWorld w 5 ⟨s.toArray⟩) fun e w' => e = .returned (.int .u16 (sumN s : Int)) ∧ w' = Lib.bytesWorld w 5 ⟨s.toArray⟩) := fun c w hE => sum_of s c w hE.tab hE.room (by omega)
  have HS1 : Hid (∀ c : Nat, Calls Tryz.prog 66 #[.slice (some ⟨w.heap.size + 1, 0, none⟩) s.length c] (Lib.bytesWorld (w.alloc (.cells (pkCells zeroP) 53)) 5 ⟨s.toArray⟩) fun e w' => e = .returned (.int .u16 (sumN s : Int)) ∧ w' = Lib.bytesWorld (w.alloc (.cells (pkCells zeroP) 53)) 5 ⟨s.toArray⟩) := fun c => by
    have := HSu.out c _ HE1.out
    rwa [show (w.alloc (.cells (pkCells zeroP) 53)).heap.size = w.heap.size + 1 by simp] at this
  have HB2 := hid (bytesWorld_below (w.alloc (.cells (pkCells zeroP) 53)) 5 ⟨s.toArray⟩)
  have HP2 := hid (HP.out.below HB2.out HP.out.lt)
  have HW2 := hid (HW.out.trans (HB2.out.mono HW.out.size))
  have z2 : ¬ (sumN s : Int) = 0 := by omega
  have z1 : ((sumN s : Int) == 0) = false := beq_eq_false_iff_ne.2 z2
  clear hn HSu
  generalize (sumN s : Int) = Z at *
  have hl : ¬ (s.length : Int) < 23 := by omega
  have hlz : (s.length : Int) ≤ 281474976710656 := by omega
  clear hE h0 hs
  go_enter Tryz.func40, Tryz.ntmps40
  go_wp2_with fail
  refine (HS1.out _).mono ?_; rintro e w2 ⟨rfl, hw⟩
  rw [← hw] at HP2 HW2
  clear hw HS1 HB2 HP HW HE1 kc
  go_wp2_with (refine wpList_store_row rfl 53 _ _ rfl w.heap.size (pkCells zeroP) rfl rfl 53 _ HP2.out (infoPk _) (sizesPk _ _) (onePk _) ?_)
  exact bodyPost_ret (v := .tuple #[.agg (pkCells zeroP), .int .i64 140]) (ret_pk2 rfl rfl rfl (pbox_set HP2.out)) rfl ⟨rfl, below_setRow HW2.out (Nat.le_refl _) _⟩
set_option maxHeartbeats 4000000 in
theorem decode_long (s : Bs) (w : World) (hE : Env w) (h0 : 23 ≤ s.length) (hs : s.length ≤ 281474976710656) (hn : sumN s = 0) : Calls Tryz.prog 40 #[.string ⟨s.toArray⟩] w fun e w' => e = .returned (.tuple #[.agg (pkCells (decPk s)), .int .i64 (decE s)]) ∧ Below w.heap.size w w' := by
  have hz := zeroPk
  have HP := hid (pbox_new w zeroP)
  have HW := hid (below_alloc w (.cells (pkCells zeroP) 53))
  have HE := hid hE
  have HE1 := hid (hE.below HW.out hE.room)
  have kc := fun (w : World) (s : ByteArray) => Lib.run_convert_string_bytes (P := Tryz.prog) w 9 126 5 s Tryz.underlying9 Tryz.underlying126 Tryz.underlying5
  have HSu : Hid (∀ (c : Nat) (w : World), Env w → Calls Tryz.prog 66 #[.slice (some ⟨w.heap.size, 0, none⟩) s.length c] (Lib.bytesWorld w 5 ⟨s.toArray⟩) fun e w' => e = .returned (.int .u16 (sumN s : Int)) ∧ w' = Lib.bytesWorld w 5 ⟨s.toArray⟩) := fun c w hE => sum_of s c w hE.tab hE.room (by omega)
  have HS1 : Hid (∀ c : Nat, Calls Tryz.prog 66 #[.slice (some ⟨w.heap.size + 1, 0, none⟩) s.length c] (Lib.bytesWorld (w.alloc (.cells (pkCells zeroP) 53)) 5 ⟨s.toArray⟩) fun e w' => e = .returned (.int .u16 (sumN s : Int)) ∧ w' = Lib.bytesWorld (w.alloc (.cells (pkCells zeroP) 53)) 5 ⟨s.toArray⟩) := fun c => by
    have := HSu.out c _ HE1.out
    rwa [show (w.alloc (.cells (pkCells zeroP) 53)).heap.size = w.heap.size + 1 by simp] at this
  have hn0 : (sumN s : Int) = 0 := by rw [hn]; rfl
  rw [hn0] at HS1
  clear HSu hn0
  have HRd := hid (fun w h => read_any s w h h0 hs)
  have HEn := hid (fun w h => encode_any (rdP s) w h)
  have HB2 := hid (bytesWorld_below (w.alloc (.cells (pkCells zeroP) 53)) 5 ⟨s.toArray⟩)
  have HP2 := hid (HP.out.below HB2.out HP.out.lt)
  have HW2 := hid (HW.out.trans (HB2.out.mono HW.out.size))
  have HNo : Hid (¬ (rightP (rdP s) = true ∧ enc (rdP s) = s) → decPk s = zeroP ∧ decE s = 140) := fun h => dec_not (dec_bad h)
  have HYes : Hid (rightP (rdP s) = true → enc (rdP s) = s → decPk s = rdP s ∧ decE s = 0) := fun h1 h2 => dec_is (dec_good h0 h1 h2)
  unfold encS encE at HEn
  generalize rdP s = R at *
  generalize enc R = D at *
  generalize decPk s = DP at *
  generalize decE s = DE at *
  have hl : ¬ (s.length : Int) < 23 := by omega
  have hlz : (s.length : Int) ≤ 281474976710656 := by omega
  clear hE hn h0 hs
  go_enter Tryz.func40, Tryz.ntmps40
  go_wp2_with fail
  refine (HS1.out _).mono ?_; rintro e w2 ⟨rfl, rfl⟩
  go_wp2_with fail
  refine (HRd.out _ (HE.out.below HW2.out HE.out.room)).mono ?_; rintro e w3 ⟨rfl, hb⟩
  have HP3 := hid (HP2.out.below hb HP2.out.lt)
  have HW3 := hid (HW2.out.trans (hb.mono HW2.out.size))
  have HZ3 : Hid (PBox (w3.alloc (.cells (pkCells zeroP) 53)) w3.heap.size zeroP) := pbox_new w3 zeroP
  clear hb HP HW HE1 HS1 HRd HB2 HP2 HW2 kc
  go_wp2_with (refine wpList_store_row rfl 53 _ _ rfl w3.heap.size (pkCells R) rfl rfl 53 _ HZ3.out (infoPk _) (sizesPk _ _) (onePk _) (Hid.out ?_))
  have B4 : Hid (PBox ((w3.alloc (.cells (pkCells zeroP) 53)).setRow w3.heap.size (pkCells R)) w3.heap.size R) := pbox_set HZ3.out
  have W4 : Hid (Below w.heap.size w ((w3.alloc (.cells (pkCells zeroP) 53)).setRow w3.heap.size (pkCells R))) := below_setRow (HW3.out.alloc HW3.out.size _) HW3.out.size _
  have P4 : Hid (PBox ((w3.alloc (.cells (pkCells zeroP) 53)).setRow w3.heap.size (pkCells R)) w.heap.size zeroP) := (setRow_other _ _ _ _ (by have := HP3.out.lt; omega)).trans ((heap_alloc_old w3 _ HP3.out.lt).trans HP3.out)
  generalize (w3.alloc (.cells (pkCells zeroP) 53)).setRow w3.heap.size (pkCells R) = w4 at B4 W4 P4 ⊢
  generalize w3.heap.size = b at B4 ⊢
  refine hid ?_
  clear HP3 HW3 HZ3
  go_wp2_with (refine wpList_load_row rfl 53 _ rfl b rfl 53 _ (0, 0) _ B4.out Tryz.underlying53 rfl (infoPk _) (Hid.out ?_))
  refine hid ?_
  go_wp2_with fail
  refine (HEn.out _ (HE.out.below W4.out HE.out.room)).mono ?_; rintro e w5 ⟨rfl, hb⟩
  have B5 := hid (B4.out.below hb B4.out.lt)
  have W5 := hid (W4.out.trans (hb.mono W4.out.size))
  have P5 := hid (P4.out.below hb P4.out.lt)
  clear hb B4 W4 P4 HEn
  cases hr : rightP R with
  | false =>
    obtain ⟨rfl, rfl⟩ := HNo.out (fun h => by rw [hr] at h; exact absurd h.1 (by decide))
    clear HNo HYes
    rw [if_neg (by decide), if_neg (by decide)]
    go_wp2_with (refine wpList_store_row rfl 53 _ _ rfl w.heap.size (pkCells zeroP) rfl rfl 53 _ P5.out (infoPk _) (sizesPk _ _) (onePk _) ?_)
    exact bodyPost_ret (v := .tuple #[.agg (pkCells zeroP), .int .i64 140]) (ret_pk2 rfl rfl rfl (pbox_set P5.out)) rfl ⟨rfl, below_setRow W5.out (Nat.le_refl _) _⟩
  | true =>
    rw [if_pos rfl, if_pos rfl]
    by_cases hd : D = s
    · obtain ⟨rfl, rfl⟩ := HYes.out hr hd
      subst hd
      clear HNo HYes
      go_wp2_with (first | (refine wpList_load_row rfl 53 _ rfl b rfl 53 _ (0, 0) _ B5.out Tryz.underlying53 rfl (infoPk _) ?_) | (refine wpList_store_row rfl 53 _ _ rfl w.heap.size _ rfl rfl 53 _ P5.out (infoPk _) (sizesPk _ _) (onePk _) ?_))
      exact bodyPost_ret (v := .tuple #[.agg (pkCells DP), .int .i64 0]) (ret_pk2 rfl rfl rfl (pbox_set P5.out)) rfl ⟨rfl, below_setRow W5.out (Nat.le_refl _) _⟩
    · obtain ⟨rfl, rfl⟩ := HNo.out (fun h => hd h.2)
      clear HNo HYes
      have hd2 : (D == s) = false := by simpa using hd
      go_wp2_with (refine wpList_store_row rfl 53 _ _ rfl w.heap.size (pkCells zeroP) rfl rfl 53 _ P5.out (infoPk _) (sizesPk _ _) (onePk _) ?_)
      exact bodyPost_ret (v := .tuple #[.agg (pkCells zeroP), .int .i64 140]) (ret_pk2 rfl rfl rfl (pbox_set P5.out)) rfl ⟨rfl, below_setRow W5.out (Nat.le_refl _) _⟩
/-- Decode -/
theorem decode_any (s : Bs) (w : World) (hE : Env w) (hs : s.length ≤ 281474976710656) : Calls Tryz.prog 40 #[.string ⟨s.toArray⟩] w fun e w' => e = .returned (.tuple #[.agg (pkCells (decPk s)), .int .i64 (decE s)]) ∧ Below w.heap.size w w' := by
  by_cases h0 : 23 ≤ s.length
  · by_cases hn : sumN s = 0
    · exact decode_long s w hE h0 hs hn
    · obtain ⟨e1, e2⟩ := dec_not (dec_sum hn)
      rw [e1, e2]
      exact decode_sum s w hE h0 hs hn
  · obtain ⟨e1, e2⟩ := dec_not (dec_short (show s.length < 23 by omega))
    rw [e1, e2]
    exact decode_short s w (by omega)

end Go.Proofs.YtbfllifgmlkndaaGreatDoor

namespace Go.Proofs.YtbfllifgmlkndaaGreatDoor
open Go.RowKit
open Slot

/-- a packet's cells, whatever they are -/
def Rw (C : Array Value) : Prop := C.size = 261 ∧ C.all (·.oneCell') = true
theorem Rw.info {C : Array Value} (h : Rw C) : (Tryz.prog.info? 53).map (·.size) = some C.size := by rw [h.1]; kernel_rfl
theorem Rw.sizes {C B : Array Value} (h : Rw C) (k : Rw B) : C.size = B.size := h.1.trans k.1.symm
theorem rw_pk (p : Pk) : Rw (pkCells p) := ⟨pkCells_size p, onePk p⟩
def At (w : World) (b : Nat) (C : Array Value) : Prop := w.heap[b]? = some (.cells C 53 (0, 0))
theorem At.lt {w : World} {b : Nat} {C : Array Value} (h : At w b C) : b < w.heap.size := (Array.getElem?_eq_some_iff.1 h).1
theorem At.below {w w' : World} {n b : Nat} {C : Array Value} (h : At w b C) (hb : Below n w w') (hn : b < n) : At w' b C := (hb.block b hn).trans h
theorem At.set {w : World} {b : Nat} {C B : Array Value} (h : At w b C) : At (w.setRow b B) b B := setRow_heap w b _ _ _ _ h
theorem At.new (w : World) (C : Array Value) : At (w.alloc (.cells C 53)) w.heap.size C := heap_alloc_new w _
theorem At.old {w : World} {b : Nat} {C : Array Value} (h : At w b C) (o : Obj) : At (w.alloc o) b C := (heap_alloc_old w o h.lt).trans h
theorem At.other {w : World} {b g : Nat} {C B : Array Value} (h : At w b C) (hne : b ≠ g) : At (w.setRow g B) b C := (setRow_other w g b B hne).trans h
end Go.Proofs.YtbfllifgmlkndaaGreatDoor

namespace Go.Proofs.YtbfllifgmlkndaaGreatDoor
open Go.RowKit
open Slot

theorem flat_set (l : List (Nat × Nat)) (f t n : Nat) : (flat (l ++ [(f, t)])).set (l.length * 2 + 1) (.int .i64 n) = flat (l ++ [(f, n)]) := by
  rw [flat_append, flat_append]
  have := flat_length l
  rw [List.set_append_right _ _ (by omega), this]
  congr 1
  simp [flat]
theorem push_runL (B : Nat) (w : World) (v : Value) (acc : List (Nat × Nat)) (f t : Nat) (hown : w.ownsRow B 116 2 v acc.length (flat acc)) (hB : B ≤ w.heap.size) (hlen : acc.length ≤ 1000000) :
    ∃ v' w', (Builtin.append_ #[80, 80] 80 #[v, .slice (some ⟨w.heap.size, 0, none⟩) 1 1]).run Tryz.prog (w.alloc (.cells #[.int .i64 f, .int .i64 t] 116)) = .ok v' w' ∧ w'.ownsRow B 116 2 v' (acc ++ [(f, t)]).length (flat (acc ++ [(f, t)])) ∧
      (w.alloc (.cells #[.int .i64 f, .int .i64 t] 116)).grownBy w' v.ownBlock := by
  obtain ⟨i0, hi, hz0, hz1, hz2⟩ := info_parts infoR
  have hown' := owns_below hown (below_alloc w (.cells #[.int .i64 f, .int .i64 t] 116))
  obtain ⟨v', w', hrun, ho, hgr, _⟩ := run_append_own (P := Tryz.prog) (w.alloc (.cells #[.int .i64 f, .int .i64 t] 116)) B 80 80 116 i0 (.agg #[.int .i64 0, .int .i64 0]) 2 16 Tryz.underlying80 hi hz0 hz1 hz2 rfl (by decide) _ _ _ hown' ⟨w.heap.size, 0, none⟩ 1 1 [.int .i64 f, .int .i64 t] rfl
    (fun j u hj => by
      rw [Go.WideShapes.add_plain, cell_of_row _ _ _ _ _ _ (heap_alloc_new w _)]
      simpa using hj)
    (fun u hu => by rcases List.mem_cons.1 hu with rfl | hu; rfl; rw [List.mem_singleton.1 hu]; rfl) (by unfold maxLen; omega) (by omega) (by simp; omega)
  refine ⟨v', w', hrun, ?_, hgr⟩
  rw [flat_append, List.length_append]
  exact ho
theorem numGo_step {s : List UInt8} {k n : Nat} (hk : k < s.length) (h1 : 48 ≤ s[k].toNat) (h2 : s[k].toNat ≤ 57) (h3 : n < 100000) : numGo n (s.drop k) = numGo (n * 10 + (s[k].toNat - 48)) (s.drop (k + 1)) := by
  rw [List.drop_eq_getElem_cons hk]
  simp only [numGo]
  rw [if_pos ⟨by unfold isDig; simp; omega, h3⟩]
theorem numGo_out {s : List UInt8} {k n : Nat} (h : ¬ ∃ h : k < s.length, 48 ≤ s[k].toNat ∧ s[k].toNat ≤ 57 ∧ n < 100000) : numGo n (s.drop k) = (n, s.drop k) := by
  by_cases hk : k < s.length
  · rw [List.drop_eq_getElem_cons hk]
    simp only [numGo]
    rw [if_neg]
    rintro ⟨h1, h2⟩
    unfold isDig at h1
    simp at h1
    exact h ⟨hk, h1.1, h1.2, h2⟩
  · rw [List.drop_eq_nil_of_le (by omega)]; rfl
theorem byteAt {l : List UInt8} {n : Nat} (h : n < l.length) : ((((⟨l.toArray⟩ : ByteArray)[n]'(by simpa [ByteArray.size] using h)).toNat : Nat) : Int) = (l[n].toNat : Int) := rfl
theorem byte_is45 {l : List UInt8} {n : Nat} (h : n < l.length) : ((((⟨l.toArray⟩ : ByteArray)[n]'(by simpa [ByteArray.size] using h)).toNat : Int) == 45) = decide (l[n] = 45) := by
  have e : ((⟨l.toArray⟩ : ByteArray)[n]'(by simpa [ByteArray.size] using h)) = l[n] := rfl
  rw [e]
  by_cases hc : l[n] = 45
  · simp [hc]
  · rw [decide_eq_false hc, beq_eq_false_iff_ne]
    intro h2
    exact hc (UInt8.toNat_inj.1 (by have : (45 : UInt8).toNat = 45 := rfl; omega))
theorem owns_form {w : World} {B : Nat} {e : TypeId} {size : Nat} {v : Value} {n : Nat} {xs : List Value} (h : w.ownsRow B e size v n xs) (hn : 0 < n) : ∃ g cap, v = .slice (some ⟨g, 0, none⟩) n cap := by
  rcases h.2 with ⟨_, h0⟩ | ⟨g, cap, cur, hu, _⟩
  · omega
  · exact ⟨g, cap, hu⟩
/-- a way out of the digits -/
def Out (s : List UInt8) (k : Nat) (z : Int) : Prop := ¬ k < s.length ∨ ∃ (h : k < s.length) (m : Int), ((((⟨s.toArray⟩ : ByteArray)[k]'(by simpa [ByteArray.size] using h)).toNat : Nat) : Int) = m ∧ (m < 48 ∨ (48 ≤ m ∧ 57 < m) ∨ (48 ≤ m ∧ m ≤ 57 ∧ 100000 ≤ z))
theorem out_of {s : List UInt8} {k n : Nat} {z : Int} (hz : (n : Int) = z) (h : ¬ ∃ h : k < s.length, 48 ≤ s[k].toNat ∧ s[k].toNat ≤ 57 ∧ n < 100000) : Out s k z := by
  by_cases hk : k < s.length
  · refine .inr ⟨hk, _, byteAt hk, ?_⟩
    by_cases h1 : 48 ≤ s[k].toNat
    · by_cases h2 : s[k].toNat ≤ 57
      · exact .inr (.inr ⟨by omega, by omega, by have : ¬ n < 100000 := fun h3 => h ⟨hk, h1, h2, h3⟩; omega⟩)
      · exact .inr (.inl ⟨by omega, by omega⟩)
    · exact .inl (by omega)
  · exact .inl hk
/-- what a text of which nothing is read is told -/
theorem none_of {s : List UInt8} (h : ∀ L : List (Nat × Nat), s = print L → Chain 0 L → False) : parseVal s = .tuple #[.agg (cellsOf (fun _ => false)), .int .i64 20] := by
  cases hp : parseAll s with
  | none => exact parseVal_bad hp
  | some L => exact absurd (parseAll_sound hp) fun ⟨a, b⟩ => h L a b
set_option maxHeartbeats 4000000 in
set_option maxRecDepth 100000 in
theorem rParse_any (s : List UInt8) (w : World) (hl : s.length ≤ 1048576) :
    Calls Tryz.prog 37 #[.string ⟨s.toArray⟩] w fun e w' => e = .returned (parseVal s) ∧ Below w.heap.size w w' := by
  have hz := zeroBits
  have HZ0 := hid (box_new w (fun _ => false))
  have HW0 := hid (below_alloc w (.cells (cellsOf fun _ => false) 24))
  have HG0 : Hid (∀ L, s = print L → Chain 0 L → Slot.Good s 0 [] L) := fun (L : List (Nat × Nat)) h _ => by rw [h]; exact good_first L
  go_enter Tryz.func37, Tryz.ntmps37
  go_wp2
  go_loopw [4, 5, 6, 7] (fun v4 v5 _ _ W => ∃ (l : List (Nat × Nat)) (i : Nat), v5 = .int .i64 i ∧ i ≤ s.length + 1 ∧ 2 * l.length ≤ i ∧ Hid (W.ownsRow (w.heap.size + 1) 116 2 v4 l.length (flat l)) ∧ Hid (∀ p ∈ l, p.1 < 1000000 ∧ p.2 < 1000000) ∧ Hid (Box W w.heap.size (fun _ => false)) ∧ Hid (Below w.heap.size w W) ∧ Hid (∀ L : List (Nat × Nat), s = print L → Chain 0 L → Slot.Good s i l L)) (fun _ v5 _ _ _ => s.length + 1 - (intOf v5).toNat)
  case atStart => exact ⟨[], 0, rfl, by omega, by simp, ⟨rfl, .inl ⟨rfl, rfl⟩⟩, (fun p h => by cases h), HZ0.out, HW0.out, HG0.out⟩
  case round =>
    obtain ⟨l, i, rfl, hi1, hi2, HO, HV, HZ, HW, HG⟩ := hrel
    obtain ⟨a, cap, ha, hrow⟩ := owns_rowR HO.out (by omega)
    subst ha
    by_cases hlt : i < s.length
    · clear hrow
      go_wp2
      go_loop [6, 7] (fun v6 v7 => ∃ (z : Int) (k : Nat), v6 = .int .i64 z ∧ v7 = .int .i64 k ∧ i ≤ k ∧ k ≤ s.length ∧ 0 ≤ z ∧ z < 1000000 ∧ Hid (∃ n : Nat, (n : Int) = z ∧ numGo 0 (s.drop i) = numGo n (s.drop k))) (fun _ v7 => s.length - (intOf v7).toNat)
      case atStart => exact ⟨0, i, rfl, rfl, Nat.le_refl _, by omega, by omega, by omega, 0, rfl, rfl⟩
      case round =>
        obtain ⟨z, k, rfl, rfl, hk1, hk2, hz0, hz1, HNz⟩ := hrel
        obtain ⟨n, hnz, hN⟩ := HNz.out
        have HN := hid hN
        have Hnz := hid hnz
        clear hN HNz
        by_cases hgo : ∃ h : k < s.length, 48 ≤ s[k].toNat ∧ s[k].toNat ≤ 57 ∧ n < 100000
        · obtain ⟨hk, h1, h2, h3⟩ := hgo
          have hby : ((⟨s.toArray⟩ : ByteArray)[k]'(by simpa [ByteArray.size] using hk)) = s[k] := rfl
          have HS := hid (HN.out.trans (numGo_step hk h1 h2 h3))
          generalize s[k] = c at hby h1 h2 HS
          obtain ⟨m, hm⟩ : ∃ m : Int, m = (c.toNat : Int) := ⟨_, rfl⟩
          have hb0 : ((((⟨s.toArray⟩ : ByteArray)[k]'(by simpa [ByteArray.size] using hk)).toNat : Nat) : Int) = m := by rw [hby, hm]
          have hb1 : (48 : Int) ≤ m := by omega
          have hb2 : m ≤ 57 := by omega
          have HH := hid (And.intro h1 (And.intro h2 (And.intro h3 (And.intro hnz hm))))
          have hn3 : z < 100000 := by omega
          clear h1 h2 h3 hnz hm hby
          go_wp2_with (at_builtin; fail)
          obtain ⟨h1, h2, h3, hn, hm⟩ := HH.out
          refine ⟨⟨z * 10 + m - 48, k + 1, rfl, by go_num, by omega, by omega, by omega, by omega, n * 10 + (c.toNat - 48), by omega, HS.out⟩, by simp [intOf]; omega⟩
        · have HX := hid (HN.out.trans (numGo_out hgo))
          have HOut := hid (out_of hnz hgo)
          clear hgo hnz
          rcases Nat.lt_or_ge i k with hik | hik
          · have hB : i = 0 ∨ (∃ (j : Nat) (h : j < s.length), i = j + 1 ∧ s[j] ≠ 45) ∨ (∃ (j : Nat) (h : j < s.length), i = j + 1 ∧ s[j] = 45 ∧ l = []) ∨ (∃ (j : Nat) (h : j < s.length) (l0 : List (Nat × Nat)) (f t : Nat), i = j + 1 ∧ s[j] = 45 ∧ l = l0 ++ [(f, t)]) := by
              by_cases h0 : i = 0
              · exact .inl h0
              · have hj : i - 1 < s.length := by omega
                by_cases h45 : s[i - 1] = 45
                · rcases List.eq_nil_or_concat l with h | ⟨l0, ⟨f, t⟩, h⟩
                  · exact .inr (.inr (.inl ⟨i - 1, hj, by omega, h45, h⟩))
                  · exact .inr (.inr (.inr ⟨i - 1, hj, l0, f, t, by omega, h45, by rw [h, List.concat_eq_append]⟩))
                · exact .inr (.inl ⟨i - 1, hj, by omega, h45⟩)
            have hwr : w.heap.size < wr.heap.size := HZ.out.lt
            have HSt := hid (fun L h1 h2 => (good_step (HG.out L h1 h2) hlt h2 HX.out).2)
            rcases hB with h | ⟨j, hj, rfl, hne⟩ | ⟨j, hj, rfl, h45, h⟩ | ⟨j, hj, l0, f, t, rfl, h45, h⟩
            · subst h
              have HNot : Hid (¬ (0 < 0 ∧ s[0 - 1]? = some 45 ∧ l ≠ [])) := fun h => absurd h.1 (by omega)
              obtain ⟨v', w3, hrun, ho3, hg3⟩ := push_runL (w.heap.size + 1) wr (.slice a l.length cap) l n n HO.out (by omega) (by omega)
              rw [Hnz.out] at hrun hg3
              have HRun := hid hrun
              have hb3 : Below (w.heap.size + 1) (wr.alloc (.cells #[.int .i64 z, .int .i64 z] 116)) w3 := (Below.refl _ _).grown hg3 (by simp; omega) (fun q hq => (World.ownsRow.lt HO.out q hq).1)
              have HO3 := hid ho3
              have HZ3 := hid ((HZ.out.below (below_alloc wr _) HZ.out.lt).below hb3 (by omega))
              have HW3 := hid ((HW.out.alloc (by omega) (.cells #[.int .i64 z, .int .i64 z] 116)).trans (hb3.mono (by omega)))
              have HV3 : Hid (∀ p ∈ l ++ [(n, n)], p.1 < 1000000 ∧ p.2 < 1000000) := fun p hp => by
                rcases List.mem_append.1 hp with hp | hp
                · exact HV.out p hp
                · rw [List.mem_singleton.1 hp]; have := Hnz.out; exact ⟨by simp only; omega, by simp only; omega⟩
              have HG3 : Hid (∀ L : List (Nat × Nat), s = print L → Chain 0 L → Slot.Good s (k + 1) (l ++ [(n, n)]) L) := fun L h1 h2 => (HSt.out L h1 h2).2 HNot.out
              have hlen : (l ++ [(n, n)]).length = l.length + 1 := by simp
              clear hrun ho3 hg3 hb3
              rcases HOut.out with hk | ⟨hk, m, hb0, hm | ⟨hm, hm2⟩ | ⟨hm, hm2, hn3⟩⟩
              all_goals
                go_wp2_with (at_builtin; refine wpList_append_run rfl _ _ 80 rfl _ _ _ _ rfl rfl HRun.out ?_)
                refine ⟨⟨l ++ [(n, n)], k + 1, by go_num, ?_, ?_, HO3.out, HV3, HZ3.out, HW3.out, HG3⟩, ?_⟩
                · omega
                · omega
                · simp [intOf]; omega
            · have HNot : Hid (¬ (0 < j + 1 ∧ s[j + 1 - 1]? = some 45 ∧ l ≠ [])) := fun h => by
                have := h.2.1
                rw [Nat.add_sub_cancel, List.getElem?_eq_getElem hj] at this
                exact hne (by injection this)
              have hbj := byte_is45 hj
              rw [decide_eq_false hne] at hbj
              clear hne
              obtain ⟨v', w3, hrun, ho3, hg3⟩ := push_runL (w.heap.size + 1) wr (.slice a l.length cap) l n n HO.out (by omega) (by omega)
              rw [Hnz.out] at hrun hg3
              have HRun := hid hrun
              have hb3 : Below (w.heap.size + 1) (wr.alloc (.cells #[.int .i64 z, .int .i64 z] 116)) w3 := (Below.refl _ _).grown hg3 (by simp; omega) (fun q hq => (World.ownsRow.lt HO.out q hq).1)
              have HO3 := hid ho3
              have HZ3 := hid ((HZ.out.below (below_alloc wr _) HZ.out.lt).below hb3 (by omega))
              have HW3 := hid ((HW.out.alloc (by omega) (.cells #[.int .i64 z, .int .i64 z] 116)).trans (hb3.mono (by omega)))
              have HV3 : Hid (∀ p ∈ l ++ [(n, n)], p.1 < 1000000 ∧ p.2 < 1000000) := fun p hp => by
                rcases List.mem_append.1 hp with hp | hp
                · exact HV.out p hp
                · rw [List.mem_singleton.1 hp]; have := Hnz.out; exact ⟨by simp only; omega, by simp only; omega⟩
              have HG3 : Hid (∀ L : List (Nat × Nat), s = print L → Chain 0 L → Slot.Good s (k + 1) (l ++ [(n, n)]) L) := fun L h1 h2 => (HSt.out L h1 h2).2 HNot.out
              have hlen : (l ++ [(n, n)]).length = l.length + 1 := by simp
              clear hrun ho3 hg3 hb3
              rcases HOut.out with hk | ⟨hk, m, hb0, hm | ⟨hm, hm2⟩ | ⟨hm, hm2, hn3⟩⟩
              all_goals
                go_wp2_with (at_builtin; refine wpList_append_run rfl _ _ 80 rfl _ _ _ _ rfl rfl HRun.out ?_)
                refine ⟨⟨l ++ [(n, n)], k + 1, by go_num, ?_, ?_, HO3.out, HV3, HZ3.out, HW3.out, HG3⟩, ?_⟩
                · omega
                · omega
                · simp [intOf]; omega
            · have HNot : Hid (¬ (0 < j + 1 ∧ s[j + 1 - 1]? = some 45 ∧ l ≠ [])) := fun hh => hh.2.2 h
              have hbj := byte_is45 hj
              rw [decide_eq_true h45] at hbj
              have hl0 : l.length = 0 := by rw [h]; rfl
              clear h45 h
              obtain ⟨v', w3, hrun, ho3, hg3⟩ := push_runL (w.heap.size + 1) wr (.slice a l.length cap) l n n HO.out (by omega) (by omega)
              rw [Hnz.out] at hrun hg3
              have HRun := hid hrun
              have hb3 : Below (w.heap.size + 1) (wr.alloc (.cells #[.int .i64 z, .int .i64 z] 116)) w3 := (Below.refl _ _).grown hg3 (by simp; omega) (fun q hq => (World.ownsRow.lt HO.out q hq).1)
              have HO3 := hid ho3
              have HZ3 := hid ((HZ.out.below (below_alloc wr _) HZ.out.lt).below hb3 (by omega))
              have HW3 := hid ((HW.out.alloc (by omega) (.cells #[.int .i64 z, .int .i64 z] 116)).trans (hb3.mono (by omega)))
              have HV3 : Hid (∀ p ∈ l ++ [(n, n)], p.1 < 1000000 ∧ p.2 < 1000000) := fun p hp => by
                rcases List.mem_append.1 hp with hp | hp
                · exact HV.out p hp
                · rw [List.mem_singleton.1 hp]; have := Hnz.out; exact ⟨by simp only; omega, by simp only; omega⟩
              have HG3 : Hid (∀ L : List (Nat × Nat), s = print L → Chain 0 L → Slot.Good s (k + 1) (l ++ [(n, n)]) L) := fun L h1 h2 => (HSt.out L h1 h2).2 HNot.out
              have hlen : (l ++ [(n, n)]).length = l.length + 1 := by simp
              clear hrun ho3 hg3 hb3
              rw [hl0] at HRun hlen hi2
              rw [hl0]
              clear hl0
              rcases HOut.out with hk | ⟨hk, m, hb0, hm | ⟨hm, hm2⟩ | ⟨hm, hm2, hn3⟩⟩
              all_goals
                go_wp2_with (at_builtin; refine wpList_append_run rfl _ _ 80 rfl _ _ _ _ rfl rfl HRun.out ?_)
                refine ⟨⟨l ++ [(n, n)], k + 1, by go_num, ?_, ?_, HO3.out, HV3, HZ3.out, HW3.out, HG3⟩, ?_⟩
                · omega
                · omega
                · simp [intOf]; omega
            · subst h
              have hbj := byte_is45 hj
              rw [decide_eq_true h45] at hbj
              have ln : (l0 ++ [(f, t)]).length = l0.length + 1 := by simp
              obtain ⟨g, cp, hv4⟩ := owns_form HO.out (by rw [ln]; omega)
              injection hv4 with ea el ec
              subst ea
              subst ec
              have hOw : wr.ownsRow (w.heap.size + 1) 116 2 (.slice (some ⟨g, 0, none⟩) (l0 ++ [(f, t)]).length cap) (l0 ++ [(f, t)]).length (flat (l0 ++ [(f, t)])) := HO.out
              obtain ⟨ho3, hg3⟩ := World.ownsRow.stored hOw (l0.length * 2 + 1) (.int .i64 (n : Int))
              rw [flat_set, Hnz.out] at ho3
              rw [Hnz.out] at hg3
              have hgl := World.ownsRow.lt HO.out g rfl
              have hfr : wr.frozen? ⟨g, l0.length * 2 + 1, none⟩ = false := World.ownsRow.frozenAt hOw _
              have hcl : wr.cell? ⟨g, l0.length * 2 + 1, none⟩ = some (.int .i64 t) := by
                rw [World.ownsRow.cellAt hOw _ (by rw [ln]; omega), flat_append, List.getElem?_append_right (by rw [flat_length]; omega), flat_length]
                simp [flat]
              have HO3 : Hid ((wr.setCell ⟨g, l0.length * 2 + 1, none⟩ (.int .i64 z)).ownsRow (w.heap.size + 1) 116 2 (.slice (some ⟨g, 0, none⟩) (l0 ++ [(f, t)]).length cap) (l0 ++ [(f, n)]).length (flat (l0 ++ [(f, n)]))) := by
                have e : (l0 ++ [(f, n)]).length = (l0 ++ [(f, t)]).length := by simp
                rw [e]
                exact ho3
              have HZ3 := hid (HZ.out.below ((Below.refl (w.heap.size + 1) wr).setCell (p := ⟨g, l0.length * 2 + 1, none⟩) hgl.1 (.int .i64 z)) (by omega))
              have HW3 := hid (HW.out.setCell (p := ⟨g, l0.length * 2 + 1, none⟩) (by show w.heap.size ≤ g; omega) (.int .i64 z))
              have HV3 : Hid (∀ p ∈ l0 ++ [(f, n)], p.1 < 1000000 ∧ p.2 < 1000000) := fun p hp => by
                rcases List.mem_append.1 hp with hp | hp
                · exact HV.out p (List.mem_append_left _ hp)
                · rw [List.mem_singleton.1 hp]
                  have h1 := HV.out (f, t) (by simp)
                  have := Hnz.out
                  exact ⟨h1.1, by simp only; omega⟩
              have HG3 : Hid (∀ L : List (Nat × Nat), s = print L → Chain 0 L → Slot.Good s (k + 1) (l0 ++ [(f, n)]) L) := fun L h1 h2 => by
                have := (HSt.out L h1 h2).1 ⟨Nat.succ_pos _, by rw [Nat.add_sub_cancel, List.getElem?_eq_getElem hj, h45], by simp⟩
                rwa [setLast_snoc] at this
              have hlen : (l0 ++ [(f, n)]).length = l0.length + 1 := by simp
              have HO3b := HO3
              rw [ln] at hi2 HO3b
              clear h45 ho3 hg3 hOw HO HSt HG HV el
              rcases HOut.out with hk | ⟨hk, m, hb0, hm | ⟨hm, hm2⟩ | ⟨hm, hm2, hn3⟩⟩
              all_goals
                go_wp2_with (at_builtin; fail)
                refine ⟨⟨l0 ++ [(f, n)], k + 1, by go_num, ?_, ?_, (by first | exact HO3 | exact HO3b), HV3, HZ3.out, HW3.out, HG3⟩, ?_⟩
                · omega
                · omega
                · simp [intOf]; omega
          · obtain rfl : k = i := by omega
            have HP := hid (none_of (s := s) fun L h1 h2 => by
              have := (good_step (HG.out L h1 h2) hlt h2 HX.out).1
              omega)
            rcases HOut.out with hk | ⟨hk, m, hb0, hm | ⟨hm, hm2⟩ | ⟨hm, hm2, hn3⟩⟩
            · exact absurd hlt hk
            · go_wp2_with (first | (at_builtin; fail) | (refine wpList_store_row rfl 24 _ _ rfl w.heap.size _ rfl rfl 24 _ HZ.out (infoBits _) (sizes _ _) (oneCells _) ?_))
              exact bodyPost_ret (v := .tuple #[.agg (cellsOf fun _ => false), .int .i64 20]) (ret_box2 rfl rfl rfl (box_size HZ.out)) rfl ⟨by rw [HP.out], below_setRow HW.out (Nat.le_refl _) _⟩
            · go_wp2_with (first | (at_builtin; fail) | (refine wpList_store_row rfl 24 _ _ rfl w.heap.size _ rfl rfl 24 _ HZ.out (infoBits _) (sizes _ _) (oneCells _) ?_))
              exact bodyPost_ret (v := .tuple #[.agg (cellsOf fun _ => false), .int .i64 20]) (ret_box2 rfl rfl rfl (box_size HZ.out)) rfl ⟨by rw [HP.out], below_setRow HW.out (Nat.le_refl _) _⟩
            · go_wp2_with (first | (at_builtin; fail) | (refine wpList_store_row rfl 24 _ _ rfl w.heap.size _ rfl rfl 24 _ HZ.out (infoBits _) (sizes _ _) (oneCells _) ?_))
              exact bodyPost_ret (v := .tuple #[.agg (cellsOf fun _ => false), .int .i64 20]) (ret_box2 rfl rfl rfl (box_size HZ.out)) rfl ⟨by rw [HP.out], below_setRow HW.out (Nat.le_refl _) _⟩
    · have hbnd : ∀ q (h : q < (l.map intR).length), -9223372036854775808 ≤ (l.map intR)[q].1 ∧ (l.map intR)[q].1 ≤ 9223372036854775807 ∧ -9223372036854775808 ≤ (l.map intR)[q].2 ∧ (l.map intR)[q].2 ≤ 9223372036854775807 := fun q hq => by
        have hq' : q < l.length := by simpa using hq
        have := HV.out l[q] (List.getElem_mem hq')
        simp only [List.getElem_map, intR]
        omega
      have hmk := rMake_any a cap (l.map intR) wr hrow hbnd
      rw [List.length_map] at hmk
      have hcase : (∃ e : Int, e ≠ 0 ∧ makeVal (l.map intR) = .tuple #[.agg (cellsOf fun _ => false), .int .i64 e] ∧ parseAll s = none) ∨ makeVal (l.map intR) = .tuple #[.agg (cellsOf (ofList l)), .int .i64 0] := by
        by_cases hall : (l.map intR).all validR = true
        · exact .inr (by rw [makeVal_ok hall, natR_intR])
        · refine .inl ⟨20, by decide, makeVal_bad (by simpa using hall), ?_⟩
          cases hp : parseAll s with
          | none => rfl
          | some L =>
            exfalso
            obtain ⟨h1, h2⟩ := parseAll_sound hp
            have hlL := good_last (HG.out L h1 h2) (by omega)
            subst hlL
            apply hall
            rw [List.all_eq_true]
            intro p hp'
            obtain ⟨q, hq, rfl⟩ := List.mem_map.1 hp'
            have := (chain_runs h2).valid q hq
            unfold top at this
            show decide (0 ≤ (q.1 : Int) ∧ (q.1 : Int) ≤ (q.2 : Int) ∧ (q.2 : Int) ≤ 16383) = true
            exact decide_eq_true (by omega)
      have hwr : w.heap.size < wr.heap.size := HZ.out.lt
      have HG' := HG
      clear hrow hbnd HG HV HO
      rcases hcase with ⟨e, hne, hX, hpn⟩ | hX
      · rw [hX] at hmk
        have HM := hid hmk
        have HP := hid (parseVal_bad hpn)
        clear hmk hX hpn
        go_wp2_with fail
        refine HM.out.mono ?_; rintro e1 w1 ⟨rfl, hb1⟩
        have Z1 := hid (HZ.out.below hb1 HZ.out.lt)
        have W1 := hid (HW.out.trans (hb1.mono (by omega)))
        have hw1 : w.heap.size < w1.heap.size := Z1.out.lt
        have B1 : Hid (Box (w1.alloc (.cells (cellsOf fun _ => false) 24)) w1.heap.size (fun _ => false)) := box_new w1 _
        clear hb1
        go_wp2_with (first | (at_builtin; fail) | (refine wpList_store_row rfl 24 _ _ rfl w1.heap.size _ rfl rfl 24 _ B1.out (infoBits _) (sizes _ _) (oneCells _) (Hid.out ?_)))
        have B2 : Hid (Box ((w1.alloc (.cells (cellsOf fun _ => false) 24)).setRow w1.heap.size (cellsOf fun _ => false)) w1.heap.size (fun _ => false)) := box_size B1.out
        have W2 : Hid (Below w.heap.size w ((w1.alloc (.cells (cellsOf fun _ => false) 24)).setRow w1.heap.size (cellsOf fun _ => false))) := below_setRow (W1.out.alloc (by omega) _) (by omega) _
        have Z2 : Hid (Box ((w1.alloc (.cells (cellsOf fun _ => false) 24)).setRow w1.heap.size (cellsOf fun _ => false)) w.heap.size (fun _ => false)) := (setRow_other _ _ _ _ (by omega)).trans (Z1.out.below (below_alloc w1 _) Z1.out.lt)
        generalize (w1.alloc (.cells (cellsOf fun _ => false) 24)).setRow w1.heap.size (cellsOf fun _ => false) = w2 at B2 W2 Z2 ⊢
        refine hid ?_
        clear B1 W1 Z1 HM
        go_wp2_with (first | (at_builtin; fail) | (refine wpList_store_row rfl 24 _ _ rfl w.heap.size _ rfl rfl 24 _ Z2.out (infoBits _) (sizes _ _) (oneCells _) ?_))
        exact bodyPost_ret (v := .tuple #[.agg (cellsOf fun _ => false), .int .i64 20]) (ret_box2 rfl rfl rfl (box_size Z2.out)) rfl ⟨by rw [HP.out], below_setRow W2.out (Nat.le_refl _) _⟩
      · rw [hX] at hmk
        have HM := hid hmk
        clear hmk hX
        obtain ⟨X, hXe⟩ : ∃ X, X = ofList l := ⟨_, rfl⟩
        rw [← hXe] at HM
        have HPr : Hid (∀ W, Calls Tryz.prog 62 #[.agg (cellsOf X)] W fun e w' => (∃ T : List UInt8, e = .returned (.string ⟨T.toArray⟩) ∧ ((T = s ∧ parseVal s = .tuple #[.agg (cellsOf X), .int .i64 0]) ∨ (T ≠ s ∧ parseVal s = .tuple #[.agg (cellsOf fun _ => false), .int .i64 20]))) ∧ Below W.heap.size W w') := fun W => by
          refine (rPrint_any X W).mono ?_
          rintro e w' ⟨⟨k, hk, rfl⟩, hb⟩
          refine ⟨⟨_, rfl, ?_⟩, hb⟩
          have hpk := parseAll_print hk.chain
          by_cases hs : print k = s
          · rw [hs] at hpk
            have hlk := good_last (HG'.out k hs.symm hk.chain) (by omega)
            exact .inl ⟨hs, by rw [parseVal_ok hpk, hXe, hlk]⟩
          · refine .inr ⟨hs, ?_⟩
            cases hp : parseAll s with
            | none => exact parseVal_bad hp
            | some L =>
              exfalso
              obtain ⟨h1, h2⟩ := parseAll_sound hp
              have hlL := good_last (HG'.out L h1 h2) (by omega)
              subst hlL
              rw [hXe] at hk
              exact hs (by rw [hk.unique (chain_runs h2)]; exact h1.symm)
        clear hXe HG'
        go_wp2_with fail
        refine HM.out.mono ?_; rintro e1 w1 ⟨rfl, hb1⟩
        have Z1 := hid (HZ.out.below hb1 HZ.out.lt)
        have W1 := hid (HW.out.trans (hb1.mono (by omega)))
        have hw1 : w.heap.size < w1.heap.size := Z1.out.lt
        have B1 : Hid (Box (w1.alloc (.cells (cellsOf fun _ => false) 24)) w1.heap.size (fun _ => false)) := box_new w1 _
        clear hb1
        go_wp2_with (first | (at_builtin; fail) | (refine wpList_store_row rfl 24 _ _ rfl w1.heap.size _ rfl rfl 24 _ B1.out (infoBits _) (sizes _ _) (oneCells _) (Hid.out ?_)))
        have B2 : Hid (Box ((w1.alloc (.cells (cellsOf fun _ => false) 24)).setRow w1.heap.size (cellsOf X)) w1.heap.size X) := box_size B1.out
        have W2 : Hid (Below w.heap.size w ((w1.alloc (.cells (cellsOf fun _ => false) 24)).setRow w1.heap.size (cellsOf X))) := below_setRow (W1.out.alloc (by omega) _) (by omega) _
        have Z2 : Hid (Box ((w1.alloc (.cells (cellsOf fun _ => false) 24)).setRow w1.heap.size (cellsOf X)) w.heap.size (fun _ => false)) := (setRow_other _ _ _ _ (by omega)).trans (Z1.out.below (below_alloc w1 _) Z1.out.lt)
        generalize (w1.alloc (.cells (cellsOf fun _ => false) 24)).setRow w1.heap.size (cellsOf X) = w2 at B2 W2 Z2 ⊢
        generalize w1.heap.size = b2 at B2 hw1 ⊢
        refine hid ?_
        clear B1 W1 Z1 HM
        go_wp2_with (first | (at_builtin; fail) | (refine wpList_load_want rfl 24 _ rfl b2 rfl 24 _ (0, 0) _ B2.out Tryz.underlying24 rfl (infoBits _) (Hid.out ?_)))
        refine hid ?_
        go_wp2_with fail
        refine (HPr.out w2).mono ?_; rintro e1 w3 ⟨⟨T, rfl, hT⟩, hb3⟩
        have B3 := hid (B2.out.below hb3 B2.out.lt)
        have Z3 := hid (Z2.out.below hb3 Z2.out.lt)
        have W3 := hid (W2.out.trans (hb3.mono (by have := Z2.out.lt; omega)))
        clear hb3 HPr
        rcases hT with ⟨rfl, hpv⟩ | ⟨hne, hpv⟩
        · have HPV := hid hpv
          clear hpv
          go_wp2_with (first | (at_builtin; fail) | (refine wpList_load_row rfl 24 _ rfl b2 rfl 24 _ (0, 0) _ B3.out Tryz.underlying24 rfl (infoBits _) ?_) | (refine wpList_store_row rfl 24 _ _ rfl w.heap.size _ rfl rfl 24 _ Z3.out (infoBits _) (sizes _ _) (oneCells _) ?_))
          exact bodyPost_ret (v := .tuple #[.agg (cellsOf X), .int .i64 0]) (ret_box2 rfl rfl rfl (box_size Z3.out)) rfl ⟨by rw [HPV.out], below_setRow W3.out (Nat.le_refl _) _⟩
        · have HPV := hid hpv
          have hneq : (T == s) = false := beq_eq_false_iff_ne.2 hne
          clear hpv hne
          go_wp2_with (first | (at_builtin; fail) | (refine wpList_store_row rfl 24 _ _ rfl w.heap.size _ rfl rfl 24 _ Z3.out (infoBits _) (sizes _ _) (oneCells _) ?_))
          exact bodyPost_ret (v := .tuple #[.agg (cellsOf fun _ => false), .int .i64 20]) (ret_box2 rfl rfl rfl (box_size Z3.out)) rfl ⟨by rw [HPV.out], below_setRow W3.out (Nat.le_refl _) _⟩

end Go.Proofs.YtbfllifgmlkndaaGreatDoor

namespace Go.Proofs.YtbfllifgmlkndaaGreatDoor
open Go.RowKit
open Slot

/-- the listed variables, in the rows' order -/
def listed : List (String × DataW Unit) := [("marshalyard/crc.halfSums", Rows.laid_marshalyard_crc_halfSums), ("math/bits.deBruijn32tab", Rows.laid_math_bits_deBruijn32tab), ("math/bits.deBruijn64tab", Rows.laid_math_bits_deBruijn64tab), ("internal/strconv.uint64pow10", Rows.laid_internal_strconv_uint64pow10), ("strconv.ErrRange", Rows.laid_strconv_ErrRange), ("strconv.ErrSyntax", Rows.laid_strconv_ErrSyntax)]
theorem gTab : Tryz.prog.globalNamed "marshalyard/crc.halfSums" = some 0 := by kernel_rfl
theorem gTabType : (Tryz.prog.globals[0]?).map (·.type) = some 158 := by kernel_rfl
theorem gBr : Tryz.prog.globalNamed "math/bits.deBruijn64tab" = some 6 := by kernel_rfl
theorem gBrType : (Tryz.prog.globals[6]?).map (·.type) = some 210 := by kernel_rfl
theorem gPowType : (Tryz.prog.globals[2]?).map (·.type) = some 195 := by kernel_rfl
theorem gSynType : (Tryz.prog.globals[3]?).map (·.type) = some 166 := by kernel_rfl
theorem gRanType : (Tryz.prog.globals[4]?).map (·.type) = some 166 := by kernel_rfl
theorem cellsTab : Tryz.prog.cellsOf 158 = 16 := by kernel_rfl
theorem cellsBr : Tryz.prog.cellsOf 210 = 64 := by kernel_rfl
theorem cellsPow : Tryz.prog.cellsOf 195 = 20 := by kernel_rfl
theorem cells16 : Tryz.prog.cellsOf 128 = 1 := by kernel_rfl
theorem cells8 : Tryz.prog.cellsOf 5 = 1 := by kernel_rfl
theorem cells64 : Tryz.prog.cellsOf 22 = 1 := by kernel_rfl
theorem cellsES : Tryz.prog.cellsOf 208 = 1 := by kernel_rfl
theorem cellsStr : Tryz.prog.cellsOf 9 = 1 := by kernel_rfl
theorem starES : "*" ++ "errors.errorString" = "*errors.errorString" := by decide
theorem rowES : ∀ u, Tryz.prog.typeName? 3 u = some "*errors.errorString" → u = 206 := fun u h =>
  typeName_ptr_named (nm := "errors.errorString") (by rw [starES]; kernel_rfl) (by kernel_rfl) (by decide) u (by rw [starES]; exact h)
def sums : List Int := [0, 4129, 8258, 12387, 16516, 20645, 24774, 28903, 33032, 37161, 41290, 45419, 49548, 53677, 57806, 61935]
theorem sums_eq : ∀ i : Fin 16, sums.getD i.val 0 = ((Crc.tabL.getD i.val 0#16).toNat : Int) := by decide +kernel
def bru : List Int := [0, 1, 56, 2, 57, 49, 28, 3, 61, 58, 42, 50, 38, 29, 17, 4, 62, 47, 59, 36, 45, 43, 51, 22, 53, 39, 33, 30, 24, 18, 12, 5, 63, 55, 48, 27, 60, 41, 37, 16, 46, 35, 44, 21, 52, 32, 23, 11, 54, 26, 40, 15, 34, 20, 31, 10, 25, 14, 19, 9, 13, 8, 7, 6]
theorem env_of {W : World} (hL : laidMetH Tryz.prog listed W) : Env W := by
  have h : laidMet Tryz.prog listed W := (MakeChecks.laidMetH_plain _ _ _ (by kernel_rfl)) ▸ hL
  have t1 : Lib.TabIs Tryz.prog W "marshalyard/crc.halfSums" .u16 sums := Lib.tabIs_of_head gTab gTabType Tryz.underlying158 Tryz.underlying128 cells16 cellsTab h
  have t3 : Lib.TabIs Tryz.prog W "internal/strconv.uint64pow10" .u64 Lib.pow10Tab := Lib.tabIs_of_head gPow gPowType Tryz.underlying195 Tryz.underlying22 cells64 cellsPow h.tail.tail.tail
  have t2 : Lib.TabIs Tryz.prog W "math/bits.deBruijn64tab" .u8 bru := Lib.tabIs_of_head gBr gBrType Tryz.underlying210 Tryz.underlying5 cells8 cellsBr h.tail.tail
  obtain ⟨a0, s0, hv0, -, -, -⟩ := laid_sentinel h.tail.tail.tail.tail gRan gRanType Tryz.underlying166 rowES Tryz.underlying206 Tryz.underlying208 rfl rfl Tryz.underlying9 cellsES cellsStr
  obtain ⟨a1, s1, hv1, -, -, -⟩ := laid_sentinel h.tail.tail.tail.tail.tail gSyn gSynType Tryz.underlying166 rowES Tryz.underlying206 Tryz.underlying208 rfl rfl Tryz.underlying9 cellsES cellsStr
  refine ⟨?_, fun i hi => ?_, t3, ⟨_, _, hv1⟩, ⟨_, _, hv0⟩⟩
  · by_cases h6 : 6 < W.heap.size
    · exact h6
    · exfalso
      have hc := t2.cell gBr 0 (by decide)
      unfold World.cell? at hc
      rw [Array.getElem?_eq_none (Nat.le_of_not_lt h6)] at hc
      cases hc
  · rw [t1.cell gTab i hi]
    exact congrArg (fun z => some (Value.int .u16 z)) (sums_eq ⟨i, hi⟩)

def synS : ByteArray := { data := #[105, 110, 118, 97, 108, 105, 100, 32, 115, 121, 110, 116, 97, 120] }
def rngS : ByteArray := { data := #[118, 97, 108, 117, 101, 32, 111, 117, 116, 32, 111, 102, 32, 114, 97, 110, 103, 101] }
def bru32 : List Int := [0, 1, 28, 2, 29, 14, 24, 3, 30, 22, 20, 15, 25, 17, 4, 8, 31, 27, 13, 23, 21, 19, 16, 7, 26, 12, 18, 6, 11, 5, 10, 9]
/-- so many blocks has the settled world -/
def low (P : Program) : Nat := (World.holding P default ⟨#[], #[], []⟩).heap.size
def fillOf (cs : Array Value) : Obj → Obj
  | .cells _ t frozen => .cells cs t frozen
  | o => o
/-- a world for the witness: the settled one, each listed variable holding what its initialiser lays -/
def laidWorld (P : Program) (os : Os) : World :=
  { World.holding P os ⟨#[.cells #[.string synS] 208, .cells #[.string rngS] 208], #[], []⟩ with
    heap := ((((((World.holding P os ⟨#[.cells #[.string synS] 208, .cells #[.string rngS] 208], #[], []⟩).heap.modify 0 (fillOf (sums.map (Value.int .u16)).toArray)).modify 2 (fillOf (Lib.pow10Tab.map (Value.int .u64)).toArray)).modify 3 (fillOf #[.iface 206 (.pointer (some ⟨low P, 0, none⟩))])).modify 4 (fillOf #[.iface 206 (.pointer (some ⟨low P + 1, 0, none⟩))])).modify 5 (fillOf (bru32.map (Value.int .u8)).toArray)).modify 6 (fillOf (bru.map (Value.int .u8)).toArray) }
theorem laid_met (os : Os) (args : Array Value) : laidMet Tryz.prog listed ((laidWorld Tryz.prog os).forCall (fun _ _ => 0) ⟨#[], args, []⟩).memory :=
  laidMet_of_run' 8 (by kernel_rfl) (by kernel_rfl)

end Go.Proofs.YtbfllifgmlkndaaGreatDoor

namespace Go.Proofs.YtbfllifgmlkndaaGreatDoor
open Go.ChangeShapes Go.WideShapes Go.ChangeAt Go.RowKit
open Slot

theorem cellsInt1 : Tryz.prog.cellsOf 3 = 1 := by kernel_rfl
theorem take_one {L : List Value} {i : Nat} {v : Value} (h : (L.drop i).take 1 = [v]) : L[i]? = some v := by
  cases e : L.drop i with
  | nil => rw [e] at h; cases h
  | cons a l =>
    rw [e] at h
    obtain rfl : a = v := by simpa using h
    have := congrArg (fun l : List Value => l[0]?) e
    simpa using this
end Go.Proofs.YtbfllifgmlkndaaGreatDoor
