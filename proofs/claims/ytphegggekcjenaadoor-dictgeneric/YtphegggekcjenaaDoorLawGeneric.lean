/- The law of a dict of texts. -/
import Derived.Test.YtphegggekcjenaaDoorMethS
namespace Go.Proofs.YtphegggekcjenaaDoor
open Go.RowKit

/-- the dict behind so many texts -/
def genD (l : Row) : Nat → DM Nm
  | 0 => newD
  | i + 1 => putD (putD (genD l i) (l.getD i []) (l.getD i [] ++ [33])) (l.getD i []) (l.getD i [])
theorem gen_srt (l : Row) : ∀ i, Srt (genD l i).L
  | 0 => Srt.nil
  | i + 1 => by show Srt (putD (putD _ _ _) _ _).L; rw [putD_L, putD_L]; exact ((gen_srt l i).put _ _).put _ _
theorem gen_small (l : Row) : ∀ i, Small (2 * i) (genD l i)
  | 0 => Small.new
  | i + 1 => ((gen_small l i).put _ _).put _ _
theorem gen_get (l : Row) : ∀ i j, j < i → getL (l.getD j []) (genD l i).L = some (l.getD j [])
  | i + 1, j, h => by
    show getL _ (putD (putD _ _ _) _ _).L = _
    rw [putD_L, putD_L, get_put ((gen_srt l i).put _ _), get_put (gen_srt l i)]
    by_cases e : l.getD j [] = l.getD i []
    · rw [if_pos e, e]
    · rw [if_neg e, if_neg e]
      exact gen_get l i j (by have : j ≠ i := fun h => e (by rw [h]); omega)
set_option maxHeartbeats 4000000 in
set_option maxRecDepth 100000 in
theorem generic_any {V : World → Prop} {B : Nat} {Dq : World → Nat → (Nat → Prop) → DM Int → Prop} {Ds : World → Nat → (Nat → Prop) → DM Nm → Prop} (M : MethI V B Dq) (S : MethS V B Ds) (p : Option Addr) (l : Row) (cp : Nat) (w : World) (hV : V w) (hB : B ≤ w.heap.size) (hL : Strs w p l) (hN : ∀ x ∈ l, x.length ≤ 140737488351232) (_hnil : p = none → cp = 0) (_hcp : l.length ≤ cp) (hn : l.length ≤ 9223372036854775807) :
    Calls Tryd.prog 7 #[.slice p l.length cp] w fun e w' => e = .returned (.bool true) ∧ Below w.heap.size w w' := by
  have HM := hid M
  have HS := hid S
  have HV := hid hV
  have HL := hid hL
  have HNL := hid hN
  have HNew := hid (S.new w hV hB)
  clear M S hV hL hN _hnil _hcp
  have hnz : (l.length : Int) ≤ 9223372036854775807 := by omega
  by_cases hbig : 600 < l.length
  · have h1 : (600 : Int) < (l.length : Int) := by omega
    clear hbig
    go_enter Tryd.func7, Tryd.ntmps7
    go_wp2_with fail
    refine HNew.out.mono ?_; rintro e w1 ⟨b1, rfl, hh⟩
    obtain ⟨O0, hO0⟩ := hh.out
    have HB2 := hid hO0.2.2
    clear hh hO0
    go_wp2_with fail
    refine (alive_any HM.out _ (HM.out.envB HV.out hB hB HB2.out) (Nat.le_trans hB HB2.out.size)).mono ?_; rintro e w3 ⟨rfl, hh⟩
    have HB3 := hid (HB2.out.trans (hh.out.mono HB2.out.size))
    clear hh
    go_wp2_with fail
    go_ret
    exact ⟨rfl, HB3.out⟩
  · have h1 : ¬ (600 : Int) < (l.length : Int) := by omega
    go_enter Tryd.func7, Tryd.ntmps7
    go_wp2_with fail
    refine HNew.out.mono ?_; rintro e w1 ⟨b, rfl, hh⟩
    obtain ⟨O0, hO0⟩ := hh.out
    have H1 := hid hO0
    clear hh hO0 HNew
    go_wp2_with fail
    go_loopw [4, 5, 6, 7, 23] (fun _ _ _ _ v23 W => ∃ i : Nat, v23 = .int .i64 i ∧ i ≤ l.length ∧ Hid (∃ O, Ds W b O (genD l i) ∧ (∀ k, O k → w.heap.size ≤ k)) ∧ Hid (Below w.heap.size w W)) (fun _ _ _ _ v23 _ => l.length - (intOf v23).toNat)
    case atStart => exact ⟨0, rfl, Nat.zero_le _, ⟨O0, H1.out.1, H1.out.2.1⟩, H1.out.2.2⟩
    case round =>
      obtain ⟨i, rfl, hi, HDD, HW⟩ := hrel
      obtain ⟨O, hDO⟩ := HDD.out
      have HD := hid hDO
      clear hDO HDD
      by_cases hlt : i < l.length
      · have hlz : (i : Int) < (l.length : Int) := by omega
        have hl2 : i / 2 < l.length := by omega
        obtain ⟨g, o, rfl, hcs⟩ := HL.out (fun e => by rw [e] at hlt; simp at hlt)
        have hgl := block_lt_of_cell (hcs i hlt)
        have x0 := cell_turn (hcs i hlt) (HW.out.block g hgl)
        have Hx2 := hid (hcs (i / 2) hl2)
        have e1 : l.getD i [] = l[i] := by simp [List.getD, hlt]
        have e2 : l.getD (i / 2) [] = l[i / 2] := by simp [List.getD, hl2]
        have HN1 := hid (HNL.out _ (List.getElem_mem hlt))
        have HN2 := hid (HNL.out _ (List.getElem_mem hl2))
        have hget := gen_get l (i + 1) (i / 2) (by omega)
        have HNx : Hid (putD (putD (genD l i) l[i] (l[i] ++ [33])) l[i] l[i] = genD l (i + 1)) := by unfold Hid; rw [← e1]; rfl
        have HP1 := hid fun (W : World) (h : Ds W b O (genD l i)) => HS.out.put b O (genD l i) l[i] (l[i] ++ [33]) W h ((gen_small l i).mono (by omega)) HN1.out
        have HP2 := hid fun (O' : Nat → Prop) (W : World) (h : Ds W b O' (putD (genD l i) l[i] (l[i] ++ [33]))) => HS.out.put b O' (putD (genD l i) l[i] (l[i] ++ [33])) l[i] l[i] W h (((gen_small l i).put _ _).mono (by omega)) HN1.out
        rw [HNx.out] at HP2
        have HG := hid fun (O' : Nat → Prop) (W : World) (h : Ds W b O' (genD l (i + 1))) => HS.out.get b O' (genD l (i + 1)) l[i / 2] W h ((gen_small l (i + 1)).mono (by omega)) HN2.out
        rw [← e2] at HG
        rw [hget] at HG
        rw [e2] at HG
        simp only [Option.getD_some, Option.isSome_some] at HG
        have hlen : l[i].length ≤ 140737488351232 := HN1.out
        have hi2 : (i : Int).tdiv 2 = ((i / 2 : Nat) : Int) := by rw [Int.tdiv_eq_ediv_of_nonneg (by omega)]; omega
        generalize hq : i / 2 = q at *
        have hqz : (q : Int) < (l.length : Int) := by omega
        generalize l[i] = s at *
        generalize l[q] = u at *
        clear hcs e1 e2 hget hq HNx
        go_wp2_with fail
        rw [show (⟨s.toArray⟩ : ByteArray) ++ (⟨#[33]⟩ : ByteArray) = ⟨(s ++ [33]).toArray⟩ from bcat s [33]]
        refine (HP1.out _ HD.out.1).mono ?_; rintro e w2 ⟨rfl, hh⟩
        obtain ⟨O2, k1, k2, k3⟩ := hh.out
        have HD2 := hid k1
        have HO2 : Hid (∀ k, O2 k → w.heap.size ≤ k) := fun k hk => by rcases k2 k hk with g | g; exact HD.out.2 k g; exact Nat.le_trans HW.out.size g
        have HW2 := hid (keep_off_below HW.out k3 HD.out.2 HW.out.size)
        clear hh k1 k2 k3
        go_wp2_with fail
        refine (HP2.out O2 _ HD2.out).mono ?_; rintro e w3 ⟨rfl, hh⟩
        obtain ⟨O3, k1, k2, k3⟩ := hh.out
        have HD3 := hid k1
        have HO3 : Hid (∀ k, O3 k → w.heap.size ≤ k) := fun k hk => by rcases k2 k hk with g | g; exact HO2.out k g; exact Nat.le_trans HW2.out.size g
        have HW3 := hid (keep_off_below HW2.out k3 HO2.out HW2.out.size)
        clear hh k1 k2 k3
        have x2 := cell_turn Hx2.out (HW3.out.block g hgl)
        go_wp2_with fail
        refine (HG.out O3 _ HD3.out).mono ?_; rintro e w4 ⟨rfl, hh⟩
        have HD4 := hid (HS.out.below HD3.out hh.out)
        have HW4 := hid (HW3.out.trans (hh.out.mono HW3.out.size))
        have x4 := cell_turn Hx2.out (HW4.out.block g hgl)
        clear hh
        go_wp2_with fail
        exact ⟨⟨i + 1, by go_num, by omega, ⟨O3, HD4.out, HO3.out⟩, HW4.out⟩, by simp [intOf]; omega⟩
      · go_wp2_with fail
        refine (alive_any HM.out _ (HM.out.envB HV.out hB hB HW.out) (Nat.le_trans hB HW.out.size)).mono ?_; rintro e w3 ⟨rfl, hh⟩
        have HB3 := hid (HW.out.trans (hh.out.mono HW.out.size))
        clear hh
        go_wp2_with fail
        go_ret
        exact ⟨rfl, HB3.out⟩

end Go.Proofs.YtphegggekcjenaaDoor
