/- CrcRef, VMem, Ref1, Ref2. -/
import Derived.Test.YtoecokidooaaoaaGreatDoorM04
import Derived.Test.YtoecokidooaaoaaGreatDoorM06
namespace Go.Proofs.YtoecokidooaaoaaGreatDoor
open Go.RowKit
open Crc

theorem start16 (d : BitVec 16) (x : BitVec 8) : bits BinOp.xor IntKind.u16 (d.toNat : Int) ((x.toNat : Int) * 256) = ((d ^^^ (x.setWidth 16 * 256#16)).toNat : Int) := by
  have h := x.isLt
  have e : ((x.toNat : Int) * 256) = ((x.setWidth 16 * 256#16).toNat : Int) := by
    rw [BitVec.toNat_mul, BitVec.toNat_setWidth]
    simp
    omega
  rw [e, xor16]
theorem dbl (e : BitVec 16) : IntKind.u16.wrap ((e.toNat : Int) * 2) = ((e * 2#16).toNat : Int) := by
  rw [IntKind.wrap_u16, BitVec.toNat_mul]
  simp
theorem dbl_hi (e : BitVec 16) (h : 32768 ≤ e.toNat) : ((zstep e).toNat : Int) = bits BinOp.xor IntKind.u16 (IntKind.u16.wrap ((e.toNat : Int) * 2)) 4129 := by
  rw [dbl, zstep, if_pos h]
  exact (xor16 _ 4129#16).symm
theorem dbl_lo (e : BitVec 16) (h : ¬ 32768 ≤ e.toNat) : ((zstep e).toNat : Int) = (e.toNat : Int) * 2 := by
  have := e.isLt
  rw [zstep, if_neg h, ← dbl, IntKind.wrap_u16]
  omega

set_option maxHeartbeats 400000 in
theorem rmore_some (c : BitVec 16) (b off cap : Nat) (l : List (BitVec 8)) (w : World) (hl : l.length ≤ 9223372036854775807)
    (hc : ∀ j, j < l.length → w.cell? ⟨b, off + j, none⟩ = some (.int .u8 ((l.getD j 0#8).toNat : Int))) :
    Calls Tryz.prog 74 #[.int .u16 (c.toNat : Int), .slice (some ⟨b, off, none⟩) l.length cap] w fun e w' => e = .returned (.int .u16 ((more c l).toNat : Int)) ∧ w' = w := by
  have HC := hid hc
  clear hc
  go_enter Tryz.func74, Tryz.ntmps74
  go_wp2
  go_loop [0, 5, 6] (fun d i _ => ∃ k : Nat, k ≤ l.length ∧ i = .int .i64 k ∧ d = .int .u16 ((more c (l.take k)).toNat : Int)) (fun _ i _ => l.length - (intOf i).toNat)
  case atStart => exact ⟨0, Nat.zero_le _, rfl, rfl⟩
  case round =>
    obtain ⟨k, hk, rfl, rfl⟩ := hrel
    by_cases hlt : k < l.length
    · have hcell := HC.out k hlt
      have HS := hid (more_snoc c l k hlt)
      generalize hD : more c (l.take k) = D at HS ⊢
      generalize hX : l.getD k 0#8 = X at HS hcell
      have hb := X.isLt
      have hx0 : (0 : Int) ≤ (X.toNat : Int) := by omega
      have hx1 : (X.toNat : Int) ≤ 255 := by omega
      generalize hx : (X.toNat : Int) = x at hcell hx0 hx1
      have HX := hid hx
      clear hD hX hb hx
      go_wp2
      go_loop [0, 6] (fun d i => ∃ (m : Nat) (E : BitVec 16), m ≤ 8 ∧ i = .int .i64 m ∧ d = .int .u16 (E.toNat : Int) ∧ zsteps (8 - m) E = Crc.step D X) (fun _ i => 8 - (intOf i).toNat)
      case atStart => exact ⟨0, D ^^^ (X.setWidth 16 * 256#16), by omega, rfl, by rw [← HX.out, start16], doc_step D X⟩
      case round =>
        obtain ⟨m, E, hm, rfl, rfl, hz⟩ := hrel
        have HZ := hid hz
        clear hz
        have hE := E.isLt
        by_cases hm8 : m < 8
        · by_cases hhi : 32768 ≤ (E.toNat : Int)
          · have HE := hid (dbl_hi E (by omega))
            generalize he : (E.toNat : Int) = e at HE hhi
            have he1 : e ≤ 65535 := by omega
            clear hE he
            go_wp2
            go_round
            case rel => exact ⟨m + 1, zstep E, by omega, by go_num, by rw [HE.out], by rw [← HZ.out, show 8 - m = (8 - (m + 1)) + 1 by omega]; rfl⟩
            case measure => simp [intOf]; omega
          · have HE := hid (dbl_lo E (by omega))
            generalize he : (E.toNat : Int) = e at HE hhi
            have he0 : 0 ≤ e := by omega
            clear hE he
            go_wp2
            go_round
            case rel => exact ⟨m + 1, zstep E, by omega, by go_num, by rw [HE.out], by rw [← HZ.out, show 8 - m = (8 - (m + 1)) + 1 by omega]; rfl⟩
            case measure => simp [intOf]; omega
        · have hm' : m = 8 := by omega
          subst hm'
          have HZ' : Hid (E = Crc.step D X) := HZ.out
          clear hE
          go_wp2
          go_round
          case rel => exact ⟨k + 1, by omega, by go_num, by rw [HS.out, ← HZ'.out]⟩
          case measure => simp [intOf]; omega
    · go_wp2
      go_ret
      exact ⟨ret_int (by rw [List.take_of_length_le (by omega)]), rfl⟩

theorem rmore_none (c : BitVec 16) (a : Option Addr) (cap : Nat) (w : World) :
    Calls Tryz.prog 74 #[.int .u16 (c.toNat : Int), .slice a 0 cap] w fun e w' => e = .returned (.int .u16 (c.toNat : Int)) ∧ w' = w := by
  go_enter Tryz.func74, Tryz.ntmps74
  go_wp2
  refine wp_loop_rounds 1 ?_
  rw [rounds_succ]
  go_wp2
  go_ret
  exact ⟨rfl, rfl⟩
theorem rmore_any (c : BitVec 16) (a : Option Addr) (cap : Nat) (l : List (BitVec 8)) (w : World) (hr : Bts w a l) :
    Calls Tryz.prog 74 #[.int .u16 (c.toNat : Int), .slice a l.length cap] w fun e w' => e = .returned (.int .u16 ((more c l).toNat : Int)) ∧ w' = w := by
  by_cases h : l = []
  · subst h
    exact rmore_none c a cap w
  · obtain ⟨b, off, rfl, hc⟩ := hr.2 h
    exact rmore_some c b off cap l w hr.1 hc
theorem rsum_any (a : Option Addr) (cap : Nat) (l : List (BitVec 8)) (w : World) (hr : Bts w a l) :
    Calls Tryz.prog 50 #[.slice a l.length cap] w fun e w' => e = .returned (.int .u16 ((more 0#16 l).toNat : Int)) ∧ w' = w := by
  have HR := hid hr
  clear hr
  go_enter Tryz.func50, Tryz.ntmps50
  go_wp2_with (go_at_call 74; refine (rmore_any 0#16 _ _ l _ HR.out).mono ?_; rintro e w' ⟨rfl, rfl⟩)
  go_ret
  exact ⟨rfl, rfl⟩


theorem r1sum_any (a : Option Addr) (cap : Nat) (l : Nm) (w : World) (hr : Byts w a l) :
    Calls Tryz.prog 50 #[.slice a l.length cap] w fun e w' => e = .returned (.int .u16 (sumN l : Int)) ∧ w' = w := by
  have := rsum_any a cap (l.map UInt8.toBitVec) w hr
  rwa [List.length_map] at this

end Go.Proofs.YtoecokidooaaoaaGreatDoor

namespace Go.Proofs.YtoecokidooaaoaaGreatDoor
open Go.RowKit

set_option maxHeartbeats 1000000 in
set_option maxRecDepth 100000 in
/-- ref fits -/
theorem fits_any (p : Option Addr) (c : Nat) (l : Row) (w : World) (h : Strs w p l) (hl : l.length ≤ 1000000) (ht : ∀ x ∈ l, x.length ≤ 9223372036854775807) :
    Calls Tryz.prog 80 #[.slice p l.length c] w fun e w' => e = .returned (.bool (fitsB l)) ∧ w' = w := by
  have H := hid h
  have HT := hid ht
  have hlz : (l.length : Int) ≤ 1000000 := by omega
  obtain ⟨V, hV⟩ : ∃ V, V = fitsB l := ⟨_, rfl⟩
  rw [← hV]
  have HV := hid hV
  clear h ht hV
  go_enter Tryz.func80, Tryz.ntmps80
  go_wp2_with fail
  go_loopw [3] (fun v3 W => ∃ k : Nat, v3 = .int .i64 k ∧ k ≤ l.length ∧ Hid (∀ x ∈ l.take k, x.length ≤ 1024) ∧ W = w) (fun v3 _ => l.length - (intOf v3).toNat)
  case atStart => exact ⟨0, rfl, Nat.zero_le _, by simp [Hid], rfl⟩
  case round =>
    obtain ⟨k, rfl, hk, HK, rfl⟩ := hrel
    by_cases hlt : k < l.length
    · have hkz : (k : Int) < (l.length : Int) := by omega
      obtain ⟨b, o, rfl, hc⟩ := H.out (fun e => by rw [e] at hlt; simp at hlt)
      have x0 := hc k hlt
      have HS : Hid (l.take (k + 1) = l.take k ++ [l[k]]) := List.take_succ_eq_append_getElem hlt
      have HIn : Hid (l[k] ∈ l) := List.getElem_mem hlt
      have hxl := HT.out _ HIn.out
      generalize l[k] = t at *
      clear hc
      have hxz : (t.length : Int) ≤ 9223372036854775807 := by omega
      by_cases e : (1024 : Int) < (t.length : Int)
      · obtain rfl : V = false := HV.out.trans (fitsB_no fun h => absurd (h.1 _ HIn.out) (by omega))
        go_wp2_with fail
        go_ret
        exact ⟨rfl, rfl⟩
      · have HK2 : Hid (∀ x ∈ l.take (k + 1), x.length ≤ 1024) := by
          show ∀ x ∈ l.take (k + 1), _
          rw [HS.out]
          intro x hx
          rcases List.mem_append.1 hx with hx | hx
          · exact HK.out x hx
          · rw [List.mem_singleton.1 hx]; omega
        go_wp2_with fail
        exact ⟨⟨k + 1, by go_num, by omega, HK2.out, trivial⟩, by simp [intOf]; omega⟩
    · have HA : Hid (∀ x ∈ l, x.length ≤ 1024) := by have := HK.out; rwa [List.take_of_length_le (by omega)] at this
      by_cases h1 : (1 : Int) ≤ (l.length : Int)
      · by_cases h2 : (l.length : Int) ≤ 256
        · obtain rfl : V = true := HV.out.trans (fitsB_yes ⟨HA.out, by omega, by omega⟩)
          go_wp2_with fail
          go_ret
          exact ⟨rfl, rfl⟩
        · obtain rfl : V = false := HV.out.trans (fitsB_no fun h => absurd h.2.2 (by omega))
          go_wp2_with fail
          go_ret
          exact ⟨rfl, rfl⟩
      · obtain rfl : V = false := HV.out.trans (fitsB_no fun h => absurd h.2.1 (by omega))
        go_wp2_with fail
        go_ret
        exact ⟨rfl, rfl⟩

end Go.Proofs.YtoecokidooaaoaaGreatDoor

namespace Go.Proofs.YtoecokidooaaoaaGreatDoor
open Go.RowKit

theorem conv_two (b : Nat) (x y : UInt8) (W : World) (h0 : W.cell? ⟨b, 0, none⟩ = some (.int .u8 (x.toNat : Int))) (h1 : W.cell? ⟨b, 1, none⟩ = some (.int .u8 (y.toNat : Int))) : (convert 87 9 (.slice (some ⟨b, 0, none⟩) 2 2)).run Tryz.prog W = .ok (.string ⟨#[x, y]⟩) W :=
  run_convert_bytes_back (P := Tryz.prog) W 87 9 5 ⟨b, 0, none⟩ 2 [x, y] Tryz.underlying87 Tryz.underlying5 Tryz.underlying9 (fun j hj => by
    rw [Go.WideShapes.add_plain]
    have : j = 0 ∨ j = 1 := by simp at hj; omega
    rcases this with rfl | rfl
    · simpa using h0
    · simpa using h1)
set_option maxHeartbeats 1000000 in
set_option maxRecDepth 100000 in
/-- ref two -/
theorem two_any (n : Nat) (w : World) (hn : n < 65536) : Calls Tryz.prog 115 #[.int .i64 (n : Int)] w fun e w' => e = .returned (txt (two n)) ∧ Hid (Below w.heap.size w w') := by
  have HW := hid (below_alloc w (.cells #[.int .u8 ((n / 256 : Nat) : Int), .int .u8 ((n % 256 : Nat) : Int)] 5))
  have e0 : ((UInt8.ofNat (n / 256)).toNat : Int) = ((n / 256 : Nat) : Int) := by rw [UInt8.toNat_ofNat']; omega
  have e1 : ((UInt8.ofNat (n % 256)).toNat : Int) = ((n % 256 : Nat) : Int) := by rw [UInt8.toNat_ofNat']; omega
  have hr := conv_two w.heap.size (UInt8.ofNat (n / 256)) (UInt8.ofNat (n % 256)) (w.alloc (.cells #[.int .u8 ((n / 256 : Nat) : Int), .int .u8 ((n % 256 : Nat) : Int)] 5)) (by rw [e0]; simp) (by rw [e1]; simp)
  have t0 : (n : Int).tdiv 256 = ((n / 256 : Nat) : Int) := by rw [Int.tdiv_eq_ediv_of_nonneg (by omega)]; omega
  have t1 : (n : Int).tmod 256 = ((n % 256 : Nat) : Int) := by rw [Int.tmod_eq_emod_of_nonneg (by omega)]; omega
  have d0 : (n : Int) / 256 = ((n / 256 : Nat) : Int) := by omega
  have d1 : (n : Int) % 256 = ((n % 256 : Nat) : Int) := by omega
  have b0 : n / 256 < 256 := by omega
  have b1 : n % 256 < 256 := by omega
  have q0 : ((n / 256 : Nat) : Int) < 256 := by omega
  have q1 : ((n % 256 : Nat) : Int) < 256 := by omega
  have q2 : (0 : Int) ≤ ((n / 256 : Nat) : Int) := by omega
  have q3 : (0 : Int) ≤ ((n % 256 : Nat) : Int) := by omega
  unfold two
  generalize UInt8.ofNat (n / 256) = X at *
  generalize UInt8.ofNat (n % 256) = Y at *
  have k0 : IntKind.u8.wrap ((n / 256 : Nat) : Int) = ((n / 256 : Nat) : Int) := by rw [IntKind.wrap_u8]; omega
  have k1 : IntKind.u8.wrap ((n % 256 : Nat) : Int) = ((n % 256 : Nat) : Int) := by rw [IntKind.wrap_u8]; omega
  generalize ((n / 256 : Nat) : Int) = A at *
  generalize ((n % 256 : Nat) : Int) = B at *
  have hn1 : (n : Int) < 65536 := by omega
  clear hn b0 b1 e0 e1
  go_enter Tryz.func115, Tryz.ntmps115
  go_wp2_with fail
  go_ret
  exact ⟨rfl, HW.out⟩
set_option maxHeartbeats 1000000 in
set_option maxRecDepth 100000 in
/-- ref text -/
theorem text_any (s : Nm) (w : World) (hs : s.length < 65536) : Calls Tryz.prog 127 #[txt s] w fun e w' => e = .returned (txt (tx s)) ∧ Hid (Below w.heap.size w w') := by
  have HT := hid (fun W => two_any s.length W hs)
  have hc : (⟨(two s.length).toArray⟩ ++ ⟨s.toArray⟩ : ByteArray) = ⟨(tx s).toArray⟩ := app_ba _ _
  have hl := two_len s.length
  have hsz : (s.length : Int) < 65536 := by omega
  have n1 : ¬ 9223372036854775807 < 2 + s.length := by omega
  have n2 : ¬ 9223372036854775807 < (two s.length).length + s.length := by omega
  generalize tx s = R at *
  generalize two s.length = T2 at *
  clear hs
  go_enter Tryz.func127, Tryz.ntmps127
  go_wp2_with fail
  refine (HT.out _).mono ?_; rintro e w1 ⟨rfl, hh⟩
  go_wp2_with fail
  go_ret
  exact ⟨rfl, hh⟩
set_option maxHeartbeats 1000000 in
set_option maxRecDepth 100000 in
/-- ref part -/
theorem part_any (n : Int) (w : World) (h0 : -1048576 ≤ n) (h1 : n ≤ 1048576) : Calls Tryz.prog 128 #[.int .i64 n] w fun e w' => e = .returned (txt (part n)) ∧ Hid (Below w.heap.size w w') := by
  obtain ⟨z, hz⟩ : ∃ z : Nat, z = (n % 4294967296).toNat := ⟨_, rfl⟩
  have hzl : z < 4294967296 := by omega
  have HA := hid (fun W => two_any (z / 65536) W (by omega))
  have HB := hid (fun W => two_any (z % 65536) W (by omega))
  have hc : (⟨(two (z / 65536)).toArray⟩ ++ ⟨(two (z % 65536)).toArray⟩ : ByteArray) = ⟨(part n).toArray⟩ := by rw [app_ba, hz]; rfl
  have l1 := two_len (z / 65536)
  have l2 := two_len (z % 65536)
  have t0 : (z : Int).tdiv 65536 = ((z / 65536 : Nat) : Int) := by rw [Int.tdiv_eq_ediv_of_nonneg (by omega)]; omega
  have t1 : (z : Int).tmod 65536 = ((z % 65536 : Nat) : Int) := by rw [Int.tmod_eq_emod_of_nonneg (by omega)]; omega
  have d0 : (z : Int) / 65536 = ((z / 65536 : Nat) : Int) := by omega
  have d1 : (z : Int) % 65536 = ((z % 65536 : Nat) : Int) := by omega
  have hzz : (z : Int) < 4294967296 := by omega
  generalize part n = R at *
  generalize two (z / 65536) = P at *
  generalize two (z % 65536) = Q at *
  have n1 : ¬ 9223372036854775807 < P.length + Q.length := by omega
  by_cases hn : n < 0
  · have e : n + 4294967296 = (z : Int) := by omega
    generalize ((z / 65536 : Nat) : Int) = A at *
    generalize ((z % 65536 : Nat) : Int) = B at *
    clear hz hzl
    go_enter Tryz.func128, Tryz.ntmps128
    go_wp2_with fail
    refine (HA.out _).mono ?_; rintro e w1 ⟨rfl, hh⟩
    have HW := hid hh.out
    clear hh
    go_wp2_with fail
    refine (HB.out _).mono ?_; rintro e w2 ⟨rfl, hh⟩
    have HW2 := hid (HW.out.trans (hh.out.mono HW.out.size))
    clear hh
    go_wp2_with fail
    go_ret
    exact ⟨rfl, HW2.out⟩
  · obtain rfl : n = (z : Int) := by omega
    generalize ((z / 65536 : Nat) : Int) = A at *
    generalize ((z % 65536 : Nat) : Int) = B at *
    clear hz hzl
    go_enter Tryz.func128, Tryz.ntmps128
    go_wp2_with fail
    refine (HA.out _).mono ?_; rintro e w1 ⟨rfl, hh⟩
    have HW := hid hh.out
    clear hh
    go_wp2_with fail
    refine (HB.out _).mono ?_; rintro e w2 ⟨rfl, hh⟩
    have HW2 := hid (HW.out.trans (hh.out.mono HW.out.size))
    clear hh
    go_wp2_with fail
    go_ret
    exact ⟨rfl, HW2.out⟩

end Go.Proofs.YtoecokidooaaoaaGreatDoor

namespace Go.Proofs.YtoecokidooaaoaaGreatDoor
open Go.RowKit

set_option maxHeartbeats 2000000 in
set_option maxRecDepth 100000 in
/-- ref names -/
theorem names_any (p : Option Addr) (c : Nat) (l : List (Nm × Nm)) (w : World) (h : Prs w p l) (hl : l.length ≤ 1000000) :
    Calls Tryz.prog 79 #[.slice p l.length c] w fun e w' => ∃ q d, e = .returned (.slice q l.length d) ∧ Hid (Own w.heap.size w' (.slice q l.length d) (l.map (·.1)) ∧ Below w.heap.size w w') := by
  have H := hid h
  have hlz : (l.length : Int) ≤ 1000000 := by omega
  clear h
  go_enter Tryz.func79, Tryz.ntmps79
  go_wp2_with fail
  go_loopw [3, 4] (fun v3 v4 W => ∃ (i : Nat) (q : Option Addr) (d : Nat), v4 = .int .i64 i ∧ v3 = .slice q i d ∧ i ≤ l.length ∧ Hid (Own w.heap.size W (.slice q i d) ((l.take i).map (·.1))) ∧ Hid (Below w.heap.size w W)) (fun _ v4 _ => l.length - (intOf v4).toNat)
  case atStart => exact ⟨0, none, 0, rfl, rfl, Nat.zero_le _, World.ownsRow_nil _ _ _ _, Below.refl _ _⟩
  case round =>
    obtain ⟨i, q, d, rfl, rfl, hi, HO, HW⟩ := hrel
    by_cases hlt : i < l.length
    · have hiz : (i : Int) < (l.length : Int) := by omega
      obtain ⟨b, o, rfl, hc⟩ := H.out (fun e => by rw [e] at hlt; simp at hlt)
      have x0 := (hc i hlt).1
      have hblt : b < w.heap.size := block_lt_of_cell x0
      have HS : Hid ((l.take (i + 1)).map (·.1) = (l.take i).map (·.1) ++ [l[i].1]) := by
        rw [Hid, List.take_succ_eq_append_getElem hlt, List.map_append]; rfl
      have y0 := cell_turn x0 (HW.out.block b hblt)
      have hlen : ((l.take i).map (·.1)).length = i := by simp; omega
      obtain ⟨v2, W2, hrun2, ho2, hb2⟩ := HO.out.push HW.out.size l[i].1 (by omega)
      obtain ⟨q2, d2, rfl, -⟩ := ho2.shape
      rw [← HS.out] at ho2 hrun2
      have hl2 : ((l.take (i + 1)).map (·.1)).length = i + 1 := by simp; omega
      rw [hl2] at hrun2 ho2
      have HR2 := hid hrun2
      have HO2 := hid ho2
      have HW2 := hid (HW.out.trans hb2)
      generalize l[i].1 = t at *
      clear hc x0 hrun2 ho2 hb2 hlen hl2 HS
      go_wp2_with (refine wpList_append_runs rfl _ _ 33 33 rfl _ _ _ _ rfl rfl HR2.out (Hid.out ?_))
      refine hid ?_
      go_wp2_with fail
      exact ⟨⟨i + 1, q2, d2, by go_num, rfl, by omega, HO2.out, HW2.out⟩, by simp [intOf]; omega⟩
    · have hil : i = l.length := by omega
      subst hil
      rw [List.take_length] at HO
      go_wp2_with fail
      go_ret
      exact ⟨q, d, rfl, HO.out, HW.out⟩

set_option maxHeartbeats 2000000 in
set_option maxRecDepth 100000 in
/-- ref values -/
theorem values_any (p : Option Addr) (c : Nat) (l : List (Nm × Nm)) (w : World) (h : Prs w p l) (hl : l.length ≤ 1000000) :
    Calls Tryz.prog 82 #[.slice p l.length c] w fun e w' => ∃ q d, e = .returned (.slice q l.length d) ∧ Hid (Own w.heap.size w' (.slice q l.length d) (l.map (·.2)) ∧ Below w.heap.size w w') := by
  have H := hid h
  have hlz : (l.length : Int) ≤ 1000000 := by omega
  clear h
  go_enter Tryz.func82, Tryz.ntmps82
  go_wp2_with fail
  go_loopw [3, 4] (fun v3 v4 W => ∃ (i : Nat) (q : Option Addr) (d : Nat), v4 = .int .i64 i ∧ v3 = .slice q i d ∧ i ≤ l.length ∧ Hid (Own w.heap.size W (.slice q i d) ((l.take i).map (·.2))) ∧ Hid (Below w.heap.size w W)) (fun _ v4 _ => l.length - (intOf v4).toNat)
  case atStart => exact ⟨0, none, 0, rfl, rfl, Nat.zero_le _, World.ownsRow_nil _ _ _ _, Below.refl _ _⟩
  case round =>
    obtain ⟨i, q, d, rfl, rfl, hi, HO, HW⟩ := hrel
    by_cases hlt : i < l.length
    · have hiz : (i : Int) < (l.length : Int) := by omega
      obtain ⟨b, o, rfl, hc⟩ := H.out (fun e => by rw [e] at hlt; simp at hlt)
      have x0 := (hc i hlt).2
      have hblt : b < w.heap.size := block_lt_of_cell x0
      have HS : Hid ((l.take (i + 1)).map (·.2) = (l.take i).map (·.2) ++ [l[i].2]) := by
        rw [Hid, List.take_succ_eq_append_getElem hlt, List.map_append]; rfl
      have y0 := cell_turn x0 (HW.out.block b hblt)
      have hlen : ((l.take i).map (·.2)).length = i := by simp; omega
      obtain ⟨v2, W2, hrun2, ho2, hb2⟩ := HO.out.push HW.out.size l[i].2 (by omega)
      obtain ⟨q2, d2, rfl, -⟩ := ho2.shape
      rw [← HS.out] at ho2 hrun2
      have hl2 : ((l.take (i + 1)).map (·.2)).length = i + 1 := by simp; omega
      rw [hl2] at hrun2 ho2
      have HR2 := hid hrun2
      have HO2 := hid ho2
      have HW2 := hid (HW.out.trans hb2)
      generalize l[i].2 = t at *
      clear hc x0 hrun2 ho2 hb2 hlen hl2 HS
      go_wp2_with (refine wpList_append_runs rfl _ _ 33 33 rfl _ _ _ _ rfl rfl HR2.out (Hid.out ?_))
      refine hid ?_
      go_wp2_with fail
      exact ⟨⟨i + 1, q2, d2, by go_num, rfl, by omega, HO2.out, HW2.out⟩, by simp [intOf]; omega⟩
    · have hil : i = l.length := by omega
      subst hil
      rw [List.take_length] at HO
      go_wp2_with fail
      go_ret
      exact ⟨q, d, rfl, HO.out, HW.out⟩

end Go.Proofs.YtoecokidooaaoaaGreatDoor
