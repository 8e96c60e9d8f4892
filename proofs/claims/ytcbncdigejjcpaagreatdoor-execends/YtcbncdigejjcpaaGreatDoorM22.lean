/- DERoom, DEFind. -/
import Derived.Test.YtcbncdigejjcpaaGreatDoorM16
import Derived.Test.YtcbncdigejjcpaaGreatDoorM18
namespace Go.Proofs.YtcbncdigejjcpaaGreatDoor.Dc.DE
open Go.RowKit

set_option maxHeartbeats 1000000 in
set_option maxRecDepth 100000 in
/-- room -/
theorem room_any (nb N : Nat) (n : Nm) (w : World) (ht : Tab w) (hg : 8 < w.heap.size) (h0 : 0 < N) (hN : N ≤ 1000000) (hn : n.length ≤ 140737488351232) :
    Calls Tryz.prog 138 #[.slice (some ⟨nb, 0, none⟩) N N, txt n] w fun e w' => e = .returned (.pointer (some ⟨nb, sumN n % N, none⟩)) ∧ Hid (Below w.heap.size w w') := by
  have kc := fun (w : World) (s : ByteArray) => Lib.run_convert_string_bytes (P := Tryz.prog) w 9 104 5 s Tryz.underlying9 Tryz.underlying104 Tryz.underlying5
  have HS := hid fun c => sum_of n c w ht hg (by omega)
  have HB := hid (bytesWorld_below w 5 ⟨n.toArray⟩)
  have hx := (Crc.more 0#16 (n.map UInt8.toBitVec)).isLt
  unfold sumN
  generalize (Crc.more 0#16 (n.map UInt8.toBitVec)).toNat = x at HS hx ⊢
  obtain ⟨k, hk⟩ : ∃ k, k = x % N := ⟨_, rfl⟩
  have hkN : k < N := by rw [hk]; exact Nat.mod_lt _ h0
  have hr : (x : Int) % (N : Int) = (k : Int) := by rw [hk]; simp
  have hrt : (x : Int).tmod (N : Int) = (k : Int) := by rw [Int.tmod_eq_emod_of_nonneg (by omega)]; exact hr
  rw [← hk]
  have hx' : (x : Int) ≤ 65535 := by omega
  have h0z : (0 : Int) < (N : Int) := by omega
  have hnz : ((N : Int) == 0) = false := by simpa using by omega
  have hkz : (k : Int) < (N : Int) := by omega
  clear ht hg hk
  go_enter Tryz.func138, Tryz.ntmps138
  go_wp2_with fail
  refine (HS.out _).mono ?_; rintro e w' ⟨rfl, rfl⟩
  go_wp2
  go_ret
  exact ⟨rfl, HB.out⟩

end Go.Proofs.YtcbncdigejjcpaaGreatDoor.Dc.DE

namespace Go.Proofs.YtcbncdigejjcpaaGreatDoor.Dc.DE
open Go.RowKit

/-- what calls lean on: the table of sums, below B -/
structure Env (B : Nat) (w : World) : Prop where
  tab : Tab w
  lt : 8 < B
  size : B ≤ w.heap.size
theorem Env.turn {B : Nat} {w w' : World} (h : Env B w) (hk : ∀ k, k < B → w'.heap[k]? = w.heap[k]?) (hs : w.heap.size ≤ w'.heap.size) : Env B w' :=
  ⟨h.tab.turn (fun k hk' => hk k (by have := h.lt; omega)) hs, h.lt, Nat.le_trans h.size hs⟩
theorem Env.below {B n : Nat} {w w' : World} (h : Env B w) (k : Below n w w') (hn : B ≤ n) : Env B w' := h.turn (fun i hi => k.block i (by omega)) k.size
theorem room_env {B : Nat} (nb N : Nat) (n : Nm) (w : World) (h : Env B w) (h0 : 0 < N) (hN : N ≤ 1000000) (hn : n.length ≤ 140737488351232) :
    Calls Tryz.prog 138 #[.slice (some ⟨nb, 0, none⟩) N N, txt n] w fun e w' => e = .returned (.pointer (some ⟨nb, sumN n % N, none⟩)) ∧ Hid (Below w.heap.size w w') :=
  room_any nb N n w h.tab (by have := h.lt; have := h.size; omega) h0 hN hn
/-- both tables are not too great -/
structure Fit (T : TM E8) : Prop where
  n0 : 0 < T.nw.length
  nN : T.nw.length ≤ 1000000
  eN : T.el.length ≤ 1000000
  rN : ∀ i (h : i < T.nw.length), T.nw[i].length ≤ 1000000
  rE : ∀ i (h : i < T.el.length), T.el[i].length ≤ 1000000
set_option maxHeartbeats 1000000 in
set_option maxRecDepth 100000 in
/-- find: in the newer table -/
theorem find_new {B : Nat} {w : World} {g : Tg} {b nb : Nat} {ev : Value} {T : TM E8} {many : Nat} (h : Lies B w g b nb ev T many) (hE : Env B w) (hF : Fit T) (n : Nm) (hn : n.length ≤ 140737488351232) (i : Nat) (hi : i < T.nw.length) (he : sumN n % T.nw.length = i) (k : Nat) (hk : plc n T.nw[i] = some k) :
    Calls Tryz.prog 57 #[.pointer (some ⟨b, 0, none⟩), txt n] w fun e w' => e = .returned (.tuple #[.pointer (some ⟨nb, i, none⟩), .int .i64 k]) ∧ Hid (Below w.heap.size w w') := by
  obtain ⟨c0, -⟩ := h.cells
  have HR := hid (room_env nb T.nw.length n w hE hF.n0 hF.nN hn)
  rw [he] at HR
  obtain ⟨u, hu, -, hru, -⟩ := h.nw.room i hi
  have hnb := h.lt nb (by obtain ⟨_, _, _, e, _⟩ := h.nw; rw [e]; simp)
  have HU := hid hu
  have HRU := hid hru
  have HL := hid hnb.1
  have HK := hid (plcI_some hk)
  have HFr := hid (hF.rN i hi)
  obtain ⟨p, c, rfl⟩ := hru.shape
  clear h hE hF hk he hu hru hnb
  go_enter Tryz.func57, Tryz.ntmps57
  go_wp2_with fail
  refine HR.out.mono ?_; rintro e w1 ⟨rfl, hb⟩
  have x0 := cell_turn HU.out (hb.out.block nb HL.out)
  have HP := hid (place_any _ _ n w1 (HRU.out.turn (fun k hk => hb.out.block k (HRU.out.lt hk))) (by have := HFr.out; omega))
  rw [HK.out] at HP
  go_wp2_with fail
  refine HP.out.mono ?_; rintro e w2 ⟨rfl, rfl⟩
  go_wp2
  go_ret2
  exact ⟨rfl, hb⟩
set_option maxHeartbeats 1000000 in
set_option maxRecDepth 100000 in
/-- find: not in the newer table, and there is no other -/
theorem find_one {B : Nat} {w : World} {g : Tg} {b nb : Nat} {T : TM E8} {many : Nat} (h : Lies B w g b nb (.slice none 0 0) T many) (hE : Env B w) (hF : Fit T) (n : Nm) (hn : n.length ≤ 140737488351232) (i : Nat) (hi : i < T.nw.length) (he : sumN n % T.nw.length = i) (hk : plc n T.nw[i] = none) :
    Calls Tryz.prog 57 #[.pointer (some ⟨b, 0, none⟩), txt n] w fun e w' => e = .returned (.tuple #[.pointer (some ⟨nb, i, none⟩), .int .i64 (-1)]) ∧ Hid (Below w.heap.size w w') := by
  obtain ⟨c0, c1, -⟩ := h.cells
  have HR := hid (room_env nb T.nw.length n w hE hF.n0 hF.nN hn)
  rw [he] at HR
  obtain ⟨u, hu, -, hru, -⟩ := h.nw.room i hi
  have hnb := h.lt nb (by obtain ⟨_, _, _, e, _⟩ := h.nw; rw [e]; simp)
  have HU := hid hu
  have HRU := hid hru
  have HL := hid hnb.1
  have HK := hid (plcI_none hk)
  have HFr := hid (hF.rN i hi)
  have HC1 := hid c1
  have HBL := hid (h.lt b (by rw [h.tag]; simp)).1
  obtain ⟨p, c, rfl⟩ := hru.shape
  clear h hE hF hk he hu hru hnb c1
  go_enter Tryz.func57, Tryz.ntmps57
  go_wp2_with fail
  refine HR.out.mono ?_; rintro e w1 ⟨rfl, hb⟩
  have x0 := cell_turn HU.out (hb.out.block nb HL.out)
  have x1 := cell_turn HC1.out (hb.out.block b HBL.out)
  have HP := hid (place_any _ _ n w1 (HRU.out.turn (fun k hk => hb.out.block k (HRU.out.lt hk))) (by have := HFr.out; omega))
  rw [HK.out] at HP
  go_wp2_with fail
  refine HP.out.mono ?_; rintro e w2 ⟨rfl, rfl⟩
  go_wp2
  go_ret2
  exact ⟨rfl, hb⟩
set_option maxHeartbeats 1000000 in
set_option maxRecDepth 100000 in
/-- find: not in the newer table; the elder one is looked at -/
theorem find_two {B : Nat} {w : World} {g : Tg} {b nb eb : Nat} {T : TM E8} {many : Nat} (h : Lies B w g b nb (.slice (some ⟨eb, 0, none⟩) T.el.length T.el.length) T many) (hT : TabIs w g true eb T.el) (hE : Env B w) (hF : Fit T) (n : Nm) (hn : n.length ≤ 140737488351232) (i : Nat) (hi : i < T.nw.length) (he : sumN n % T.nw.length = i) (hk : plc n T.nw[i] = none) (j : Nat) (hj : j < T.el.length) (hje : sumN n % T.el.length = j) :
    Calls Tryz.prog 57 #[.pointer (some ⟨b, 0, none⟩), txt n] w fun e w' => e = .returned (.tuple #[.pointer (some ⟨eb, j, none⟩), .int .i64 (plcI n T.el[j])]) ∧ Hid (Below w.heap.size w w') := by
  obtain ⟨c0, c1, -⟩ := h.cells
  have HR := hid (room_env nb T.nw.length n w hE hF.n0 hF.nN hn)
  rw [he] at HR
  obtain ⟨u, hu, -, hru, -⟩ := h.nw.room i hi
  have hnb := h.lt nb (by obtain ⟨_, _, _, e, _⟩ := h.nw; rw [e]; simp)
  have heb := h.lt eb (by obtain ⟨_, _, _, e, _⟩ := hT; rw [e]; simp)
  have HEB := hid heb.1
  obtain ⟨v, hv, -, hrv, -⟩ := hT.room j hj
  have HV := hid hv
  have HRV := hid hrv
  have HU := hid hu
  have HRU := hid hru
  have HL := hid hnb.1
  have HK := hid (plcI_none hk)
  have HFr := hid (hF.rN i hi)
  have HFe := hid (hF.rE j hj)
  have HC1 := hid c1
  have HBL := hid (h.lt b (by rw [h.tag]; simp)).1
  have HEN := hid hE
  have HT := hid (fun w1 (h : Env B w1) => room_env eb T.el.length n w1 h (by omega) hF.eN hn)
  rw [hje] at HT
  obtain ⟨p, c, rfl⟩ := hru.shape
  obtain ⟨q, d, rfl⟩ := hrv.shape
  have hpl := plcI_le n T.el[j]
  generalize hX : plcI n T.el[j] = X at *
  clear h hE hF hk he hu hru hnb c1 hv hrv heb hT hje
  go_enter Tryz.func57, Tryz.ntmps57
  go_wp2_with fail
  refine HR.out.mono ?_; rintro e w1 ⟨rfl, hb⟩
  have x0 := cell_turn HU.out (hb.out.block nb HL.out)
  have x1 := cell_turn HC1.out (hb.out.block b HBL.out)
  have HP := hid (place_any _ _ n w1 (HRU.out.turn (fun k hk => hb.out.block k (HRU.out.lt hk))) (by have := HFr.out; omega))
  rw [HK.out] at HP
  go_wp2_with fail
  refine HP.out.mono ?_; rintro e w2 ⟨rfl, rfl⟩
  go_wp2_with fail
  refine (HT.out _ (HEN.out.below hb.out HEN.out.size)).mono ?_; rintro e w3 ⟨rfl, hb2⟩
  have HB3 := hid (hb.out.trans (hb2.out.mono hb.out.size))
  have y0 := cell_turn HV.out (HB3.out.block eb HEB.out)
  have HP2 := hid (place_any _ _ n w3 (HRV.out.turn (fun k hk => HB3.out.block k (HRV.out.lt hk))) (by have := HFe.out; omega))
  rw [hX] at HP2
  clear hX
  go_wp2_with fail
  refine HP2.out.mono ?_; rintro e w4 ⟨rfl, rfl⟩
  go_wp2
  go_ret2
  exact ⟨rfl, HB3⟩

end Go.Proofs.YtcbncdigejjcpaaGreatDoor.Dc.DE
