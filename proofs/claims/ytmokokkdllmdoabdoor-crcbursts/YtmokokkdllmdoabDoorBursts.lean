/- Bits turned within sixteen in a row: the walk of the law CrcBursts. -/
import Derived.Test.YtmokokkdllmdoabDoorOwn
import Derived.Test.YtmokokkdllmdoabDoorBurst
import Derived.RegionTactic
import Derived.ChangeAlike
namespace Go.Proofs.YtmokokkdllmdoabDoor
open Go.RowKit
open Crc

set_option maxHeartbeats 400000 in
theorem bursts_out (at' t : Int) (a : Option Addr) (ln cap : Nat) (w : World) (hl : ln ≤ 140737488351232) (h : at' < 0 ∨ 8 * (ln : Int) ≤ at') (ht : Tab w) :
    Calls Tryd.prog 3 #[.slice a ln cap, .int .i64 at', .int .u16 t] w fun e w' => e = .returned (.bool true) ∧ Below w.heap.size w w' := by
  have HA := hid (alive_any w ht)
  clear ht
  by_cases h0 : at' < 0
  · clear h
    go_enter Tryd.func3, Tryd.ntmps3
    go_wp2_with fail
    refine HA.out.mono ?_
    rintro e w1 ⟨rfl, hb⟩
    have HB := hid hb
    clear hb
    go_wp2
    go_ret
    exact ⟨rfl, HB.out⟩
  · have h1 : 8 * (ln : Int) ≤ at' := by omega
    clear h
    go_enter Tryd.func3, Tryd.ntmps3
    go_wp2_with fail
    refine HA.out.mono ?_
    rintro e w1 ⟨rfl, hb⟩
    have HB := hid hb
    clear hb
    go_wp2
    go_ret
    exact ⟨rfl, HB.out⟩

theorem and_bit (T : BitVec 16) (k : Nat) : bits BinOp.and IntKind.u16 ((T.toNat : Int) / 2 ^ k) 1 = if T.getLsbD k = true then 1 else 0 := by
  have ht := T.isLt
  have e0 : ((T.toNat : Int) / 2 ^ k) = ((T.toNat / 2 ^ k : Nat) : Int) := by simp
  have hle : T.toNat / 2 ^ k ≤ T.toNat := Nat.div_le_self _ _
  have e1 : bits BinOp.and IntKind.u16 ((T.toNat / 2 ^ k : Nat) : Int) ((1 : Nat) : Int) = ((T.toNat / 2 ^ k % 2 : Nat) : Int) := by
    rw [u16_and_nat _ _ (by omega) (by decide), Nat.and_one_is_mod]
  rw [e0, show (1 : Int) = ((1 : Nat) : Int) from rfl, e1, BitVec.getLsbD, Nat.testBit_eq_decide_div_mod_eq]
  by_cases h : T.toNat / 2 ^ k % 2 = 1
  · simp [h]
  · simp [h]
    omega
theorem mask_all : ∀ r : Fin 8, (128 : Int) / 2 ^ r.val = ((128#8 >>> r.val).toNat : Int) := by decide +kernel
theorem mask_nat (r : Nat) (h : r < 8) : (128 : Int) / 2 ^ r = ((128#8 >>> r).toNat : Int) := mask_all ⟨r, h⟩

set_option maxHeartbeats 1000000 in
theorem bursts_in (p : Nat) (T : BitVec 16) (b off cap : Nat) (l : List (BitVec 8)) (w : World) (hl : l.length ≤ 140737488351232) (hp : p < 8 * l.length) (ht : Tab w) (hr : Row w (some ⟨b, off, none⟩) l) :
    Calls Tryd.prog 3 #[.slice (some ⟨b, off, none⟩) l.length cap, .int .i64 (p : Int), .int .u16 (T.toNat : Int)] w fun e w' => e = .returned (.bool true) ∧ Below w.heap.size w w' := by
  have hown := own_new w.heap.size w [] (Nat.le_refl _) (by simp)
  have hb2 := (Below.refl w.heap.size w).alloc (Nat.le_refl _) (.cells (cellsOf []).toArray 5)
  obtain ⟨g, cap', w2, hrun, hown2, hb3⟩ := append_run w.heap.size _ _ _ _ (some ⟨b, off, none⟩) cap l hown (hr.below hb2) (fun h => by cases h) hb2.size (by simp; omega)
  simp only [List.nil_append, List.length_nil, Nat.zero_add] at hrun hown2
  have HB := hid (hb2.trans hb3)
  have HO := hid hown2
  have HRun := hid hrun
  have HT := hid ht
  have HR := hid hr
  clear hown hb2 hrun hown2 hb3 ht hr
  have h0 : ¬ (p : Int) < 0 := by omega
  have h1 : ¬ 8 * (l.length : Int) ≤ (p : Int) := by omega
  generalize hn : l.length = n at HRun HO h1 hp hl ⊢
  have HN := hid hn
  clear hn
  have ht16 := T.isLt
  have htt : (T.toNat : Int) ≤ 65535 := by omega
  go_enter Tryd.func3, Tryd.ntmps3
  go_wp2_with (at_builtin; refine wpList_append_run rfl _ _ 22 rfl _ _ _ _ rfl rfl HRun.out (Hid.out ?_))
  refine hid ?_
  clear HRun
  go_wp2
  go_loopw [8, 9, 10, 24] (fun tv _ _ i wr => ∃ (k : Nat) (d : List (BitVec 8)) (t : Bool), k ≤ 16 ∧ i = .int .i64 k ∧ tv = .bool t ∧ Own w.heap.size wr g cap' (List.zipWith (· ^^^ ·) l d) ∧ Below w.heap.size w wr ∧ Turns p T n k d t) (fun _ _ _ i _ => 16 - (intOf i).toNat)
  case atStart => exact ⟨0, List.replicate n 0#8, false, by omega, rfl, rfl, by rw [← HN.out, zip_zero]; exact HO.out, HB.out, Turns.start p T n⟩
  case round =>
    obtain ⟨k, d, t, hk, rfl, rfl, hown, hbel, hturn⟩ := hrel
    have HO2 := hid hown
    have HB2 := hid hbel
    have HTu := hid hturn
    clear hown hbel hturn
    by_cases hlt : k < 16
    · have hbit := and_bit T k
      by_cases hb : T.getLsbD k = true
      · rw [if_pos hb] at hbit
        by_cases hin : p + k < 8 * n
        · have hin' : (p : Int) + (k : Int) < 8 * (n : Int) := by omega
          obtain ⟨q, hq⟩ : ∃ q : Nat, (p + k) / 8 = q := ⟨_, rfl⟩
          obtain ⟨r, hr⟩ : ∃ r : Nat, (p + k) % 8 = r := ⟨_, rfl⟩
          have hq' : ((p : Int) + (k : Int)) / 8 = (q : Int) := by omega
          have hr' : ((p : Int) + (k : Int)) % 8 = (r : Int) := by omega
          have hr7 : r ≤ 7 := by omega
          have hqn : q < n := by omega
          have hm := mask_nat r (by omega)
          have HTu2 := hid (HTu.out.turn hb hin)
          rw [hq, hr] at HTu2
          have HD := hid HTu.out.1
          have hzl : (List.zipWith (· ^^^ ·) l d).length = n := by rw [List.length_zipWith, HD.out, HN.out]; omega
          have hx := HO2.out.cell q (by rw [hzl]; exact hqn)
          have hf := HO2.out.frozen q
          have hxor := xor8 ((List.zipWith (· ^^^ ·) l d).getD q 0#8) (128#8 >>> r)
          have HO3 := hid (HO2.out.set q ((List.zipWith (· ^^^ ·) l d).getD q 0#8 ^^^ (128#8 >>> r)))
          rw [zip_set l d q (128#8 >>> r) (by rw [HD.out, HN.out]) (by rw [HN.out]; exact hqn)] at HO3
          have HB3 := hid (HB2.out.setCell (p := ⟨g, q, none⟩) HO2.out.get.1 (.int .u8 (((List.zipWith (· ^^^ ·) l d).getD q 0#8 ^^^ (128#8 >>> r)).toNat : Int)))
          have HDR : Hid (∃ d', Own w.heap.size (wr.setCell ⟨g, q, none⟩ (.int .u8 (((List.zipWith (· ^^^ ·) l d).getD q 0#8 ^^^ (128#8 >>> r)).toNat : Int))) g cap' (List.zipWith (· ^^^ ·) l d') ∧ Turns p T n (k + 1) d' true) := ⟨_, HO3.out, HTu2.out⟩
          clear HO3 HTu2 hzl hq hr HD
          generalize (((List.zipWith (· ^^^ ·) l d).getD q 0#8 ^^^ (128#8 >>> r)).toNat : Int) = z at hxor HB3 HDR
          generalize (((List.zipWith (· ^^^ ·) l d).getD q 0#8).toNat : Int) = x at hxor hx
          generalize ((128#8 >>> r).toNat : Int) = y at hxor hm
          clear HO2 HB2 HTu HO HB HT HR HN
          go_wp2
          go_region
          all_goals go_wp2
          all_goals go_roundw
          case rel =>
            obtain ⟨d', h1, h2⟩ := HDR.out
            exact ⟨k + 1, d', true, by omega, by go_num, rfl, h1, HB3.out.drew, h2⟩
          case measure => simp [intOf]; omega
        · have hin' : ¬ (p : Int) + (k : Int) < 8 * (n : Int) := by omega
          have HTu2 := hid (HTu.out.skip (.inr hin))
          go_wp2
          all_goals go_roundw
          case rel => exact ⟨k + 1, d, t, by omega, by go_num, rfl, HO2.out, HB2.out, HTu2.out⟩
          case measure => simp [intOf]; omega
      · rw [if_neg hb] at hbit
        have HTu2 := hid (HTu.out.skip (.inl (by simpa using hb)))
        go_wp2
        all_goals go_roundw
        case rel => exact ⟨k + 1, d, t, by omega, by go_num, rfl, HO2.out, HB2.out, HTu2.out⟩
        case measure => simp [intOf]; omega
    · obtain rfl : k = 16 := by omega
      have hzl : (List.zipWith (· ^^^ ·) l d).length = n := by rw [List.length_zipWith, HTu.out.1, HN.out]; omega
      have HZ := hid hzl
      clear hzl
      cases t with
      | false =>
        go_wp2_with fail
        refine (alive_any _ (HT.out.below HB2.out)).mono ?_
        rintro e w1 ⟨rfl, hb⟩
        have HB3 := hid (HB2.out.trans (hb.mono HB2.out.size))
        clear hb
        go_wp2
        go_ret
        exact ⟨rfl, HB3.out⟩
      | true =>
        have HNE := hid (HTu.out)
        go_wp2_with fail
        refine (alive_any _ (HT.out.below HB2.out)).mono ?_
        rintro e w1 ⟨rfl, hb⟩
        have HB3 := hid (HB2.out.trans (hb.mono HB2.out.size))
        have HSX := hid (sum_any (some ⟨g, 0, none⟩) cap' _ w1 (HT.out.below HB3.out) (HO2.out.row.below hb))
        have HSB := hid (sum_any _ cap l w1 (HT.out.below HB3.out) (HR.out.below HB3.out))
        have hne : (((more 0#16 (List.zipWith (· ^^^ ·) l d)).toNat : Int) != ((more 0#16 l).toNat : Int)) = true := by
          have h := Turns.other (l := l) (by rw [HN.out]; exact HTu.out) rfl
          rw [bne_iff_ne]
          intro e
          exact h (BitVec.eq_of_toNat_eq (by omega))
        rw [HZ.out] at HSX
        rw [HN.out] at HSB
        generalize ((more 0#16 (List.zipWith (· ^^^ ·) l d)).toNat : Int) = x at HSX hne
        generalize ((more 0#16 l).toNat : Int) = y at HSB hne
        clear hb
        go_wp2_with fail
        refine HSX.out.mono ?_
        rintro e w' ⟨rfl, rfl⟩
        go_wp2_with fail
        refine HSB.out.mono ?_
        rintro e w' ⟨rfl, rfl⟩
        go_wp2
        go_ret
        exact ⟨rfl, HB3.out⟩

/-- the law's call, of whatever text, place and bits -/
theorem bursts_walk (a : Option Addr) (cap : Nat) (l : List (BitVec 8)) (at' : Int) (T : BitVec 16) (w : World) (ht : Tab w) (hr : Row w a l) (_hno : a = none → cap = 0) (hl : l.length ≤ 140737488351232) :
    Calls Tryd.prog 3 #[.slice a l.length cap, .int .i64 at', .int .u16 (T.toNat : Int)] w fun e w' => e = .returned (.bool true) ∧ Below w.heap.size w w' := by
  by_cases h : at' < 0 ∨ 8 * (l.length : Int) ≤ at'
  · exact bursts_out at' _ a _ cap w hl h ht
  · obtain ⟨p, rfl⟩ := Int.eq_ofNat_of_zero_le (show 0 ≤ at' by omega)
    have hp : p < 8 * l.length := by omega
    obtain ⟨b, off, rfl, _⟩ := hr.2 (by intro e; rw [e] at hp; simp at hp)
    exact bursts_in p T b off cap l w hl hp ht hr

end Go.Proofs.YtmokokkdllmdoabDoor
