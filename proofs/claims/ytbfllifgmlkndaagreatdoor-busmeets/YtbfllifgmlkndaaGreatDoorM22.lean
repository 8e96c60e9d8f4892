/- PkEnc. -/
import Derived.Deep.RegionHeld3
import Derived.Test.YtbfllifgmlkndaaGreatDoorM20
namespace Go.Proofs.YtbfllifgmlkndaaGreatDoor
open Go.RowKit
open Crc

/-- the program's Print -/
theorem print_ct (S : Nat → Bool) (w : World) (hE : Env w) : Calls Tryz.prog 84 #[.agg (cellsOf S)] w fun e w' => e = .returned (.string ⟨(ctext S).toArray⟩) ∧ Below w.heap.size w w' := by
  refine (print_any S w hE).mono ?_
  rintro e w' ⟨⟨l, hl, rfl⟩, hb⟩
  exact ⟨by rw [ctext_eq hl], hb⟩
set_option maxHeartbeats 1000000 in
theorem encode_bad (p : Pk) (w : World) (hr : rightP p = false) : Calls Tryz.prog 68 #[.agg (pkCells p)] w fun e w' => e = .returned (.tuple #[.string ⟨#[]⟩, .int .i64 140]) ∧ Below w.heap.size w w' := by
  have HP := hid (pbox_new w p)
  have HW := hid (below_alloc w (.cells (pkCells p) 53))
  have HR := hid (right_any p)
  rw [hr] at HR
  clear hr
  go_enter Tryz.func68, Tryz.ntmps68
  go_wp2_with (refine wpList_load_row rfl 53 _ rfl w.heap.size rfl 53 _ (0, 0) _ HP.out Tryz.underlying53 rfl (infoPk _) (Hid.out ?_))
  refine hid ?_
  go_wp2_with fail
  refine (HR.out _).mono ?_; rintro e w1 ⟨rfl, hb⟩
  have HW1 := hid (HW.out.trans (hb.mono HW.out.size))
  clear hb
  go_wp2
  go_ret2
  exact ⟨rfl, HW1.out⟩
theorem seven {a b c d e f g : Bs} (w : World) : ∀ (j : Nat) (x : Bs), ([a, b, c, d, e, f, g] : List Bs)[j]? = some x → (w.alloc (.cells #[.string ⟨a.toArray⟩, .string ⟨b.toArray⟩, .string ⟨c.toArray⟩, .string ⟨d.toArray⟩, .string ⟨e.toArray⟩, .string ⟨f.toArray⟩, .string ⟨g.toArray⟩] 9)).cell? ⟨w.heap.size, 0 + j, none⟩ = some (.string ⟨x.toArray⟩) := fun j x hx => by
  rw [cell_of_row _ _ _ _ _ _ (heap_alloc_new w _)]
  rw [Nat.zero_add]
  match j, hx with
  | 0, hx => obtain rfl := Option.some.inj hx; rfl
  | 1, hx => obtain rfl := Option.some.inj hx; rfl
  | 2, hx => obtain rfl := Option.some.inj hx; rfl
  | 3, hx => obtain rfl := Option.some.inj hx; rfl
  | 4, hx => obtain rfl := Option.some.inj hx; rfl
  | 5, hx => obtain rfl := Option.some.inj hx; rfl
  | 6, hx => obtain rfl := Option.some.inj hx; rfl
theorem wrap64 {n : Nat} (h : n < 18446744073709551616) : IntKind.u64.wrap (n : Int) = n := by rw [IntKind.wrap_u64]; omega
set_option maxHeartbeats 4000000 in
theorem encode_good (p : Pk) (k f o : Nat) (w : World) (hE : Env w) (hr : rightP p = true) (hk : p.kind = k) (hf : p.frm = f) (ho : p.of_ = o) (hk6 : k < 64) (hf6 : f < 64) (ho6 : o < 64) :
    Calls Tryz.prog 68 #[.agg (pkCells p)] w fun e w' => e = .returned (.tuple #[.string ⟨(enc p).toArray⟩, .int .i64 0]) ∧ Below w.heap.size w w' := by
  have HP := hid (pbox_new w p)
  have HW := hid (below_alloc w (.cells (pkCells p) 53))
  have HR := hid (right_any p)
  rw [hr] at HR
  have HPr := hid (print_ct p.cl)
  have HN1 : Hid (∀ (n : Nat) (w : World), Calls Tryz.prog 86 #[.int .i64 1, .int .u64 n] w fun e w' => e = .returned (.string ⟨(be 1 n).toArray⟩) ∧ Below w.heap.size w w') := fun n w => number_any 1 n (by decide) w
  have HN2 : Hid (∀ (n : Nat) (w : World), Calls Tryz.prog 86 #[.int .i64 2, .int .u64 n] w fun e w' => e = .returned (.string ⟨(be 2 n).toArray⟩) ∧ Below w.heap.size w w') := fun n w => number_any 2 n (by decide) w
  have HN8 : Hid (∀ (n : Nat) (w : World), Calls Tryz.prog 86 #[.int .i64 8, .int .u64 n] w fun e w' => e = .returned (.string ⟨(be 8 n).toArray⟩) ∧ Below w.heap.size w w') := fun n w => number_any 8 n (by decide) w
  have HS := hid summed_any
  have hct := ctext_len p.cl
  have HE := hid hE
  have HEnc : Hid (enc p = [be 1 k, be 1 f, be 1 o, be 8 p.epoch, be 8 p.cur, be 2 (ctext p.cl).length, ctext p.cl].flatten ++ be 2 (sumN [be 1 k, be 1 f, be 1 o, be 8 p.epoch, be 8 p.cur, be 2 (ctext p.cl).length, ctext p.cl].flatten)) := by
    have : headP p = [be 1 k, be 1 f, be 1 o, be 8 p.epoch, be 8 p.cur, be 2 (ctext p.cl).length, ctext p.cl].flatten := by
      simp [headP, front, hk, hf, ho]
    show enc p = _
    rw [← this]; rfl
  have HEnc2 : Hid (enc p = be 1 k ++ (be 1 f ++ (be 1 o ++ (be 8 p.epoch ++ (be 8 p.cur ++ (be 2 (ctext p.cl).length ++ (ctext p.cl ++ be 2 (sumN (be 1 k ++ (be 1 f ++ (be 1 o ++ (be 8 p.epoch ++ (be 8 p.cur ++ (be 2 (ctext p.cl).length ++ ctext p.cl)))))))))))))) := by
    show _ = _
    rw [HEnc.out]; simp
  have HLen : Hid ([be 1 k, be 1 f, be 1 o, be 8 p.epoch, be 8 p.cur, be 2 (ctext p.cl).length, ctext p.cl].flatten.length ≤ 1000000) := by
    show _ ≤ _
    simp [be_len]; omega
  generalize ctext p.cl = T at *
  clear hr hE
  go_enter Tryz.func68, Tryz.ntmps68
  go_wp2_with (refine wpList_load_row rfl 53 _ rfl w.heap.size rfl 53 _ (0, 0) _ HP.out Tryz.underlying53 rfl (infoPk _) (Hid.out ?_))
  refine hid ?_
  go_wp2_with fail
  refine (HR.out _).mono ?_; rintro e w1 ⟨rfl, hb⟩
  have HP1 := hid (HP.out.below hb HP.out.lt)
  have HW1 := hid (HW.out.trans (hb.mono HW.out.size))
  clear hb
  go_wp2_with (refine wpList_load_mid rfl 24 _ rfl w.heap.size 5 rfl _ _ HP1.out.range Tryz.underlying24 rfl (infoCl _) (Hid.out ?_))
  refine hid ?_
  go_wp2_with fail
  refine (HPr.out _ (HE.out.below HW1.out HE.out.room)).mono ?_; rintro e w2 ⟨rfl, hb⟩
  have HP2 := hid (HP1.out.below hb HP1.out.lt)
  have HW2 := hid (HW1.out.trans (hb.mono HW1.out.size))
  clear hb
  obtain ⟨c0, c1, c2, c3, c4⟩ := HP2.out.cells
  rw [hk] at c0
  rw [hf] at c1
  rw [ho] at c2
  have HU := hid (Below.refl w2.heap.size w2)
  have e1 := wrap64 (n := k) (by omega)
  have e2 := wrap64 (n := f) (by omega)
  have e3 := wrap64 (n := o) (by omega)
  have e4 := wrap64 (n := T.length) (by omega)
  clear HP HW HR HPr HP1 HW1
  go_wp2_with fail
  go_region_held3 (fun w' => w'.cell? ⟨w.heap.size, 0, none⟩ = some (.int .i64 k) ∧ w'.cell? ⟨w.heap.size, 1, none⟩ = some (.int .i64 f) ∧ w'.cell? ⟨w.heap.size, 2, none⟩ = some (.int .i64 o) ∧ w'.cell? ⟨w.heap.size, 3, none⟩ = some (.int .u64 p.epoch) ∧ w'.cell? ⟨w.heap.size, 4, none⟩ = some (.int .u64 p.cur))
    (first | exact ⟨c0, c1, c2, c3, c4⟩ | go_keep)
    (first
      | (go_at_call 86; (with_reducible refine (HN1.out _ _).mono ?_); rintro e w3 ⟨rfl, hb⟩; (first | replace HU := hid (HU.out.drew.trans (hb.mono HU.out.size)) | replace HU := hid (HU.out.trans (hb.mono HU.out.size))); obtain ⟨c0, c1, c2, c3, c4⟩ := (HP2.out.below HU.out HP2.out.lt).cells; rw [hk] at c0; rw [hf] at c1; rw [ho] at c2; clear hb)
      | (go_at_call 86; (with_reducible refine (HN8.out _ _).mono ?_); rintro e w3 ⟨rfl, hb⟩; (first | replace HU := hid (HU.out.drew.trans (hb.mono HU.out.size)) | replace HU := hid (HU.out.trans (hb.mono HU.out.size))); obtain ⟨c0, c1, c2, c3, c4⟩ := (HP2.out.below HU.out HP2.out.lt).cells; rw [hk] at c0; rw [hf] at c1; rw [ho] at c2; clear hb)
      | (go_at_call 86; (with_reducible refine (HN2.out _ _).mono ?_); rintro e w3 ⟨rfl, hb⟩; (first | replace HU := hid (HU.out.drew.trans (hb.mono HU.out.size)) | replace HU := hid (HU.out.trans (hb.mono HU.out.size))); obtain ⟨c0, c1, c2, c3, c4⟩ := (HP2.out.below HU.out HP2.out.lt).cells; rw [hk] at c0; rw [hf] at c1; rw [ho] at c2; clear hb)
      | (go_at_call 85; refine (HS.out _ _ [be 1 k, be 1 f, be 1 o, be 8 p.epoch, be 8 p.cur, be 2 T.length, T] _ (HE.out.below (HW2.out.trans ((HU.out.alloc HU.out.size _).mono HW2.out.size)) HE.out.room) (seven _) (by simp) (by simp) (by simp) HLen.out).mono ?_; rintro e w3 ⟨rfl, hb⟩; (first | have HV := hid ((HU.out.drew.alloc HU.out.size _).trans (hb.mono (HU.out.drew.alloc HU.out.size _).size)) | have HV := hid ((HU.out.alloc HU.out.size _).trans (hb.mono (HU.out.alloc HU.out.size _).size))); obtain ⟨c0, c1, c2, c3, c4⟩ := (HP2.out.below HV.out HP2.out.lt).cells; rw [hk] at c0; rw [hf] at c1; rw [ho] at c2; clear hb))
  all_goals (go_wp2_with fail; go_ret2; exact ⟨congrArg (fun b : Bs => Ending.returned (.tuple #[.string ⟨b.toArray⟩, .int .i64 0])) HEnc2.out.symm, HW2.out.trans (HV.out.mono HW2.out.size)⟩)
/-- what Encode tells -/
noncomputable def encS (p : Pk) : Bs := if rightP p = true then enc p else []
def encE (p : Pk) : Int := if rightP p = true then 0 else 140
/-- Encode -/
theorem encode_any (p : Pk) (w : World) (hE : Env w) : Calls Tryz.prog 68 #[.agg (pkCells p)] w fun e w' => e = .returned (.tuple #[.string ⟨(encS p).toArray⟩, .int .i64 (encE p)]) ∧ Below w.heap.size w w' := by
  unfold encS encE
  cases h : rightP p
  · exact encode_bad p w h
  · obtain ⟨h1, h2, h3, _⟩ := rightP_iff.1 h
    exact encode_good p p.kind.toNat p.frm.toNat p.of_.toNat w hE h (by omega) (by omega) (by omega) (by omega) (by omega) (by omega)

end Go.Proofs.YtbfllifgmlkndaaGreatDoor
