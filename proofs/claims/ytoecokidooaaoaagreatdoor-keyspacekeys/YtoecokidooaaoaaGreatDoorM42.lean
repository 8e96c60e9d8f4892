/- KStand. -/
import Derived.Deep.DeepCutAuto
import Derived.Test.YtoecokidooaaoaaGreatDoorM41
namespace Go.Proofs.YtoecokidooaaoaaGreatDoor
open Go.RowKit

/-- the document's space lies in the block behind w -/
structure Stn (w : World) (p : Option Addr) (n c : Nat) (room now : Int) (W : World) : Prop where
  bel : Below w.heap.size w W
  blk : W.heap[w.heap.size]? = some (.cells #[.slice p n c, .int .i64 room, .int .i64 now] 26 (0, 0))
theorem Stn.go {w : World} {p : Option Addr} {n c : Nat} {room now : Int} {W W' : World} (h : Stn w p n c room now W) (hb : Below W.heap.size W W') : Stn w p n c room now W' :=
  ⟨h.bel.trans (hb.mono h.bel.size), (hb.block _ (Array.getElem?_eq_some_iff.1 h.blk).1).trans h.blk⟩
set_option maxHeartbeats 8000000 in
set_option maxRecDepth 100000 in
theorem stands_any {B : Nat} {w : World} {b : Nat} {O A P : Nat → Prop} {L : List EP} {room now : Int} {p : Option Addr} {c : Nat} (h : Both B w b O A P L room now p c L.length) :
    Calls Tryz.prog 10 #[ptr b, sv p L.length c room now] w fun e w' => e = .returned (.bool true) ∧ Hid (Below w.heap.size w w') := by
  obtain ⟨hsp, ⟨R, hR, hm⟩, -⟩ := h
  have hlen := DoIs_len hm
  have hfine := hsp.fine
  have hok := ok_of hfine hm
  have hS0 : Stn w p L.length c room now (w.alloc (sob p L.length c room now)) := ⟨below_alloc w _, heap_alloc_new w _⟩
  have hS0d := hS0.go (Below.refl _ _).drew
  have HS0 := hid hS0d
  have HNow := hid (fun W (s : Stn w p L.length c room now W) => sp_now (hsp.below s.bel))
  have HLen := hid (fun W (s : Stn w p L.length c room now W) => sp_len (hsp.below s.bel))
  have HMem := hid (fun W (s : Stn w p L.length c room now W) => sp_mem (hsp.below s.bel))
  have HAll := hid (fun W (s : Stn w p L.length c room now W) => sp_all (hsp.below s.bel))
  have HGet := hid (fun W (s : Stn w p L.length c room now W) (k : Nm) (hk : k.length ≤ 140737488351232) => sp_get (hsp.below s.bel) k hk)
  have HCnt := hid (fun W (s : Stn w p L.length c room now W) (n : Int) (hn : In64 n) => sp_count (hsp.below s.bel) n hn)
  have HKys := hid (fun W (s : Stn w p L.length c room now W) (n : Int) (hn : In64 n) => sp_keys (hsp.below s.bel) n (L.length : Int) hn)
  have HQM := hid (fun W (s : Stn w p L.length c room now W) => qmem_any _ p c R room now W (hR.below s.bel) (by have := hfine.len; omega) hok)
  have hmm : memR R = memL L := by rw [← hm, mem_map8]
  rw [hlen, hmm] at HQM
  have HQS := hid (fun W (s : Stn w p L.length c room now W) (Q : Nat → Prop) (q : Option Addr) (d : Nat) (S : List E8) (hS : Rde Q W q d S) (hms : S.map pr8 = L) => qsame_any Q _ q d S p c R W hS (hR.below s.bel) (by have := DoIs_len hms; have := hfine.len; omega) (ok_of hfine hms))
  have HQK := hid (fun W (s : Stn w p L.length c room now W) (n : Int) => qkeys_any _ p c R room now n (L.length : Int) W (hR.below s.bel) (by have := hfine.len; omega) hok)
  rw [hlen] at HQK
  have HRd := hid hR
  have HMp := hid hm
  have HFn := hid hfine
  have HSr := hid hsp.srt
  have hlz : (L.length : Int) ≤ 4096 := by have := hfine.len; omega
  have hmz : (memL L : Int) ≤ 4100268032 := by have := memL_le (L := L) (fun x hx => (hfine.good x hx).1); have := hfine.len; omega
  obtain ⟨a0, a1, a2⟩ := sp_facts hS0.blk
  have HSame : Hid (∀ W, Stn w p L.length c room now W → ∀ (Q : Nat → Prop) (q : Option Addr) (d : Nat) (S : List E8), Rde Q W q d S → S.map pr8 = L → Calls Tryz.prog 29 #[.slice q L.length d, .slice p L.length c] W fun e w' => e = .returned (.bool true) ∧ Hid (Below W.heap.size W w')) := fun W s Q q d S hS hms => by
    have := HQS.out W s Q q d S hS hms
    rw [hlen, DoIs_len hms, show decide (S.map pr8 = R.map pr8) = true by simp [hms, HMp.out]] at this
    exact this
  clear hsp hR hm hfine hok hS0 hS0d HQS hmm
  generalize (memL L : Int) = M at *
  go_enter Tryz.func10, Tryz.ntmps10
  go_upto_region 1 with fail
  go_cut [38] (fun c38 wx => c38 = .bool false ∧ Hid (Stn w p L.length c room now wx))
  case first =>
    go_region_law (first
      | (go_simp; go_at_call 26; refine (HNow.out _ HS0.out).mono ?_; rintro e w1 ⟨rfl, hh⟩; have HS1 := hid (HS0.out.go hh.out); obtain ⟨b0, b1, b2⟩ := sp_facts HS1.out.blk; clear hh)
      | (go_simp; go_at_call 27; refine (HLen.out _ HS1.out).mono ?_; rintro e w2 ⟨rfl, hh⟩; have HS2 := hid (HS1.out.go hh.out); obtain ⟨c0, c1, c2⟩ := sp_facts HS2.out.blk; clear hh)
      | (go_simp; go_at_call 25; refine (HMem.out _ HS2.out).mono ?_; rintro e w3 ⟨rfl, hh⟩; have HS3 := hid (HS2.out.go hh.out); obtain ⟨d0, d1, d2⟩ := sp_facts HS3.out.blk; clear hh)
      | (go_simp; go_at_call 28; refine (HQM.out _ HS3.out).mono ?_; rintro e w4 ⟨rfl, hh⟩; have HS4 := hid (HS3.out.go hh.out); obtain ⟨e0, e1, e2⟩ := sp_facts HS4.out.blk; clear hh)
      | (go_simp; go_at_call 17; refine (HAll.out _ HS4.out).mono ?_; rintro e w5 ⟨q5, d5, rfl, hh⟩; obtain ⟨S5, hS5, hm5, hb5⟩ := hh.out; have HS5 := hid (HS4.out.go hb5); have HR5 := hid hS5; have HM5 := hid hm5; obtain ⟨f0, f1, f2⟩ := sp_facts HS5.out.blk; clear hh hS5 hm5 hb5)
      | (go_simp; go_at_call 29; refine (HSame.out _ HS5.out _ _ _ S5 HR5.out HM5.out).mono ?_; rintro e w6 ⟨rfl, hh⟩; have HS6 := hid (HS5.out.go hh.out); clear hh))
    all_goals (go_wp2_with fail; go_meet; exact ⟨rfl, HS6⟩)
  case rest =>
  obtain ⟨rfl, HS6⟩ := hcut
  clear a0 a1 a2
  obtain ⟨a0, a1, a2⟩ := sp_facts HS6.out.blk
  go_wp2_with fail
  go_loopw [42] (fun v42 W => ∃ i : Nat, v42 = .int .i64 i ∧ i ≤ L.length ∧ Hid (Stn w p L.length c room now W)) (fun v42 _ => L.length - (intOf v42).toNat)
  case atStart => exact ⟨0, rfl, Nat.zero_le _, HS6.out⟩
  case round =>
    obtain ⟨i, rfl, hi, HSr0⟩ := hrel
    by_cases hlt : i < L.length
    · have hiz : (i : Int) < (L.length : Int) := by omega
      have hiR : i < R.length := by omega
      obtain ⟨g, o, rfl, -, hgl, z0, z1, z2, z3, z4, z5, z6, z7⟩ := (HRd.out.below HSr0.out.bel).facts i hiR
      have hmem : pr8 R[i] ∈ L := by rw [← HMp.out]; exact List.mem_map_of_mem (List.getElem_mem hiR)
      have hget := getL_of HSr.out hmem rfl
      have hgd := HFn.out.good _ hmem
      have hly := (HRd.out.below HSr0.out.bel).lies R[i] (List.getElem_mem hiR)
      have HLy := hid hly
      have HGo := hid hgd
      have HGe := hid hget
      generalize R[i] = y at *
      have hba := below_alloc wr (eob y)
      have hS1 := HSr0.out.go hba
      have HS1 := hid hS1
      have HW1 := hid hba
      have HY1 := hid (ent_new wr y)
      obtain ⟨y0, y1, y2, y3, y4, y5, y6, y7⟩ := ent_facts (ent_new wr y)
      have HOf := hid (rOf_any y.key (wr.alloc (eob y)) (Nat.le_trans hgd.1 (by decide)))
      have hz1 : (wr.alloc (eob y)).heap.size = wr.heap.size + 1 := by simp
      have HZ1 := hid hz1
      clear hmem hget hgd hly hba hS1 hz1 a0 a1 a2
      go_wp2_with fail
      refine HOf.out.mono ?_; rintro e w1 ⟨rfl, hh⟩
      have hsl : slotOf y.key < 16384 := Nat.mod_lt _ (by decide)
      have HIn : Hid (In64 (slotOf y.key : Int)) := by constructor <;> omega
      have HS2 := hid (HS1.out.go hh.out)
      have HW2 := hid (HW1.out.trans (hh.out.mono HW1.out.size))
      have HY2 := hid ((hh.out.block wr.heap.size (by have := HZ1.out; omega)).trans HY1.out)
      have hsz2 : wr.heap.size + 1 ≤ w1.heap.size := by have := hh.out.size; have := HZ1.out; omega
      obtain ⟨n, hn⟩ : ∃ n : Int, n = (slotOf y.key : Int) := ⟨_, rfl⟩
      rw [← hn] at HIn
      have HQ2 := hid (HQK.out w1 HS2.out n)
      have hkk : keysR n (L.length : Int) R = slotL n L := by
        rw [keys_map, HMp.out]
        unfold keysL
        have : (slotL n L).length ≤ L.length := by unfold slotL; rw [List.length_map]; exact List.length_filter_le _ _
        exact List.take_of_length_le (by omega)
      have hkl : keysL n (L.length : Int) L = slotL n L := by rw [← hkk, keys_map, HMp.out]
      rw [hkk] at HQ2
      have HKl := hid hkl
      have hsll : (slotL n L).length ≤ 4096 := by
        have : (slotL n L).length ≤ L.length := by unfold slotL; rw [List.length_map]; exact List.length_filter_le _ _
        omega
      rw [← hn]
      clear hh hn hkk hkl hsl
      obtain ⟨a0, a1, a2⟩ := sp_facts HS2.out.blk
      clear y0 y1 y2 y3 y4 y5 y6 y7 z0 z1 z2 z3 z4 z5 z6 z7
      go_wp2_with fail
      refine HQ2.out.mono ?_; rintro e w2 ⟨q2, d2, rfl, hh⟩
      have HO2 := hid hh.out.1
      have HS3 := hid (HS2.out.go hh.out.2)
      have HW3 := hid (HW2.out.trans (hh.out.2.mono HW2.out.size))
      have HY3 := hid ((hh.out.2.block wr.heap.size (by omega)).trans HY2.out)
      have hsz3 : wr.heap.size + 1 ≤ w2.heap.size := by have := hh.out.2.size; omega
      have HG3 := hid (HGet.out w2 HS3.out y.key (Nat.le_trans HGo.out.1 (by decide)))
      have hge : getL y.key L = some (pr8 y) := HGe.out
      rw [hge] at HG3
      obtain ⟨y0, y1, y2, y3, y4, y5, y6, y7⟩ := ent_facts HY3.out
      clear hh a0 a1 a2 hge
      go_wp2_with fail
      refine HG3.out.mono ?_; rintro e w3 ⟨x, rfl, hh⟩
      have hba := below_alloc w3 (eob x)
      have HX4 := hid (ent_new w3 x)
      have HS4 := hid ((HS3.out.go hh.out.2.2).go hba)
      have HY4 := hid ((hba.block wr.heap.size (by have := hh.out.2.2.size; omega)).trans ((hh.out.2.2.block wr.heap.size (by omega)).trans HY3.out))
      have HO4 := hid (owns_below (owns_below HO2.out hh.out.2.2) hba)
      have HE4 := hid (hh.out.2.1.vi.below hba)
      have HPx := hid hh.out.1
      have hsz4 : wr.heap.size + 1 ≤ w3.heap.size := by have := hh.out.2.2.size; omega
      have hw3 := HW3.out.trans (hh.out.2.2.mono HW3.out.size)
      have hlq : Lies (fun j => ¬ O j ∧ P j) (w3.alloc (eob x)) y := HLy.out.below (hw3.trans (hba.mono hw3.size))
      have hxm : x.m = y.m := congrArg (fun z : EP => z.2.1) HPx.out
      have h8 := rt_small (show RtV y.m from HGo.out.2.1)
      have HQe := hid (qse_any x y (w3.alloc (eob x)) HE4.out hlq.vi (by rw [hxm]; have := h8.pairs; omega) (by rw [hxm]; have := h8.items; omega))
      rw [show decide (pr8 x = pr8 y) = true by simp [HPx.out]] at HQe
      obtain ⟨k0, k1, k2, k3, k4, k5, k6, k7⟩ := ent_facts HY4.out
      obtain ⟨l0, l1, l2, l3, l4, l5, l6, l7⟩ := ent_facts HX4.out
      clear hh hba hlq hw3 hxm h8 y0 y1 y2 y3 y4 y5 y6 y7
      go_wp2_with fail
      refine HQe.out.mono ?_; rintro e w5 ⟨rfl, hh⟩
      have HS5 := hid (HS4.out.go hh.out)
      have HO5 := hid (owns_below HO4.out hh.out)
      have HC5 := hid (HCnt.out w5 HS5.out n HIn.out)
      clear hh k0 k1 k2 k3 k4 k5 k6 k7 l0 l1 l2 l3 l4 l5 l6 l7
      go_wp2_with fail
      refine HC5.out.mono ?_; rintro e w6 ⟨rfl, hh⟩
      have HS6' := hid (HS5.out.go hh.out)
      have HO6 := hid (owns_below HO5.out hh.out)
      have HK6 := hid (HKys.out w6 HS6'.out n HIn.out)
      rw [HKl.out] at HK6
      obtain ⟨a0, a1, a2⟩ := sp_facts HS6'.out.blk
      clear hh
      go_wp2_with fail
      refine HK6.out.mono ?_; rintro e w7 ⟨q7, d7, rfl, hh⟩
      have HS7 := hid (HS6'.out.go hh.out.2)
      have HO7 := hid (owns_below HO6.out hh.out.2)
      have HK7 := hid hh.out.1
      have HSm := hid (same_any q7 d7 q2 d2 (slotL n L) (slotL n L) w7 (Own.rd HK7.out).strs (Own.rd HO7.out).strs (by omega))
      rw [show decide (slotL n L = slotL n L) = true by simp] at HSm
      clear hh a0 a1 a2
      go_wp2_with fail
      refine HSm.out.mono ?_; rintro e w8 ⟨rfl, hh⟩
      have HS8 := hid (HS7.out.go hh.out)
      clear hh
      go_wp2_with fail
      exact ⟨⟨i + 1, by go_num, by omega, HS8.out⟩, by simp [intOf]; omega⟩
    · obtain rfl : i = L.length := by omega
      go_wp2_with fail
      go_ret
      exact ⟨rfl, HSr0.out.bel⟩

end Go.Proofs.YtoecokidooaaoaaGreatDoor
