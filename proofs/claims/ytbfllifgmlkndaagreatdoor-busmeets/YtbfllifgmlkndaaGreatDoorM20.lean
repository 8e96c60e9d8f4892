/- PkBytes, PkSum. -/
import Derived.Lib.ConvBytes
import Derived.Laws.MakeOwn
import Derived.Test.YtbfllifgmlkndaaGreatDoorM18
import Derived.Test.YtbfllifgmlkndaaGreatDoorM04
namespace Go.Proofs.YtbfllifgmlkndaaGreatDoor
open Go.RowKit
open Crc

/-- bytes in a block, that may be written -/
def BR (w : World) (g : Nat) (l : List (BitVec 8)) : Prop := ∃ cs lo hi, w.heap[g]? = some (.cells cs 5 (lo, hi)) ∧ l.length ≤ cs.size ∧ (l.length ≤ lo ∨ hi = 0) ∧ ∀ j, j < l.length → cs[j]? = some (.int .u8 ((l.getD j 0#8).toNat : Int))
theorem BR.cell {w : World} {g : Nat} {l : List (BitVec 8)} (h : BR w g l) (j : Nat) (hj : j < l.length) : w.cell? ⟨g, j, none⟩ = some (.int .u8 ((l.getD j 0#8).toNat : Int)) := by
  obtain ⟨cs, lo, hi, h1, h2, h3, h4⟩ := h
  rw [cell_of_row w g j cs _ _ h1]; exact h4 j hj
theorem BR.frozen {w : World} {g : Nat} {l : List (BitVec 8)} (h : BR w g l) (j : Nat) (hj : j < l.length) : w.frozen? ⟨g, j, none⟩ = false := by
  obtain ⟨cs, lo, hi, h1, h2, h3, h4⟩ := h
  simp only [World.frozen?, h1]
  rcases h3 with h3 | h3
  · rw [decide_eq_false (by omega)]
    rfl
  · rw [h3]
    simp
theorem BR.lt {w : World} {g : Nat} {l : List (BitVec 8)} (h : BR w g l) : g < w.heap.size := by
  obtain ⟨cs, lo, hi, h1, _⟩ := h
  exact (Array.getElem?_eq_some_iff.1 h1).1
theorem BR.turn {w w' : World} {g : Nat} {l : List (BitVec 8)} (h : BR w g l) (hb : w'.heap[g]? = w.heap[g]?) : BR w' g l := by
  obtain ⟨cs, lo, hi, h1, h2⟩ := h
  exact ⟨cs, lo, hi, hb.trans h1, h2⟩
theorem BR.set {w : World} {g : Nat} {l : List (BitVec 8)} (h : BR w g l) (q : Nat) (x : BitVec 8) : BR (w.setCell ⟨g, q, none⟩ (.int .u8 (x.toNat : Int))) g (l.set q x) := by
  obtain ⟨cs, lo, hi, h1, h2, h3, h4⟩ := h
  refine ⟨cs.setIfInBounds q (.int .u8 (x.toNat : Int)), lo, hi, ?_, by simpa using h2, by simpa using h3, fun j hj => ?_⟩
  · rw [setCell_eq_setRow w g q cs _ (lo, hi) _ h1]
    exact setRow_heap w g cs _ _ _ h1
  · rw [List.length_set] at hj
    by_cases e : q = j
    · subst e
      rw [Array.getElem?_setIfInBounds_self_of_lt (by omega)]
      simp [List.getD, hj]
    · rw [Array.getElem?_setIfInBounds_ne e, h4 j hj]
      simp [List.getD, List.getElem?_set_ne e]
theorem br_new (w : World) (l : Bs) : BR (Lib.bytesWorld w 5 ⟨l.toArray⟩) w.heap.size (l.map UInt8.toBitVec) := by
  have hs : l.length ≤ (Lib.bytesCells w 5 ⟨l.toArray⟩).size := by simp [Lib.bytesCells]
  refine ⟨_, _, _, Lib.bytesWorld_at_new w 5 ⟨l.toArray⟩, by simpa using hs, .inl (by simpa using hs), fun j hj => ?_⟩
  rw [List.length_map] at hj
  have := Lib.bytesWorld_cell w 5 ⟨l.toArray⟩ j (by simpa [ByteArray.size] using hj)
  rw [cell_of_row _ _ j _ _ _ (Lib.bytesWorld_at_new w 5 ⟨l.toArray⟩)] at this
  rw [this]
  simp [List.getD, hj]
theorem br_text {W : World} {g cap : Nat} {l : List (BitVec 8)} (h : BR W g l) : (convert 126 9 (.slice (some ⟨g, 0, none⟩) l.length cap)).run Tryz.prog W = .ok (.string ⟨(l.map UInt8.ofBitVec).toArray⟩) W := by
  have := run_convert_bytes_back (P := Tryz.prog) W 126 9 5 ⟨g, 0, none⟩ cap (l.map UInt8.ofBitVec) Tryz.underlying126 Tryz.underlying5 Tryz.underlying9 (fun j hj => by
    rw [List.length_map] at hj
    rw [Go.WideShapes.add_plain, Nat.zero_add, h.cell j hj]
    simp [List.getD, hj])
  rwa [List.length_map] at this
theorem make_run (n : Nat) (hn : n ≤ 8) (u : World) : (Instr.makeSlice 126 (.int .i64 (n : Int)) (.int .i64 (n : Int))).run Tryz.prog u =
    .ok (.slice (some ⟨u.heap.size, 0, none⟩) n n) (u.alloc (.cells (List.replicate n (.int .u8 0)).toArray 5)) := by
  obtain ⟨i0, hi, hz0, hz1, hz2⟩ := info_parts info5
  have h := run_make (P := Tryz.prog) u 126 5 i0 (.int .u8 0) Tryz.underlying126 hi hz0 .i64 .i64 (n : Int) (n : Int) (by omega) (Int.le_refl _) (by rw [hz2]; omega) (by omega)
  have e : madeCells (Value.int .u8 0).cells n = (List.replicate n (Value.int .u8 0)).toArray := by
    apply Array.ext'
    rw [show (Value.int .u8 0).cells = #[Value.int .u8 0] from rfl, toList_madeCells_one]
  rw [hz1, Nat.mul_one, Int.toNat_natCast, e] at h
  exact h
/-- how far a number has been written -/
def lj (k n j : Nat) : List (BitVec 8) := ((be k n).take j ++ List.replicate (k - j) 0).map UInt8.toBitVec
theorem lj_len {k n j : Nat} (h : j ≤ k) : (lj k n j).length = k := by simp [lj, be_len]; omega
theorem lj_set {k n j : Nat} (h : j < k) : (lj k n j).set j (UInt8.ofNat (n / 256 ^ (k - 1 - j))).toBitVec = lj k n (j + 1) := by
  have e : (be k n).take (j + 1) = (be k n).take j ++ [UInt8.ofNat (n / 256 ^ (k - 1 - j))] := by
    have hj : j < (be k n).length := by rw [be_len]; exact h
    rw [List.take_succ_eq_append_getElem hj]
    have := be_get k n j h
    rw [List.getElem?_eq_getElem hj] at this
    rw [Option.some.inj this]
  unfold lj
  rw [e, ← List.map_set, show k - j = (k - (j + 1)) + 1 by omega, List.replicate_succ, List.set_append_right _ _ (by simp [be_len]; omega)]
  simp [be_len, Nat.min_eq_left (Nat.le_of_lt h)]
theorem lj_end (k n : Nat) : (lj k n k).map UInt8.ofBitVec = be k n := by
  unfold lj
  rw [List.take_of_length_le (by rw [be_len]; omega), Nat.sub_self, List.replicate_zero, List.append_nil, List.map_map]
  exact List.map_id'' (fun x => rfl) _
theorem br_zero (u : World) (k n : Nat) : BR (u.alloc (.cells (List.replicate k (.int .u8 0)).toArray 5)) u.heap.size (lj k n 0) := by
  have hl : (lj k n 0).length = k := lj_len (Nat.zero_le _)
  refine ⟨_, _, _, heap_alloc_new u _, ?_, ?_, fun j hj => ?_⟩
  · rw [hl]; simp
  · exact .inr rfl
  · rw [hl] at hj
    simp [lj, hj, List.getD]
set_option maxHeartbeats 1000000 in
/-- number -/
theorem number_any (k n : Nat) (hk : k ≤ 8) (w : World) : Calls Tryz.prog 86 #[.int .i64 k, .int .u64 n] w fun e w' => e = .returned (.string ⟨(be k n).toArray⟩) ∧ Below w.heap.size w w' := by
  have HM := make_run k hk
  have HB0 := hid (br_zero w k n)
  have HW0 := hid (below_alloc w (.cells (List.replicate k (.int .u8 0)).toArray 5))
  go_enter Tryz.func86, Tryz.ntmps86
  go_wp2
  clear HM
  go_loopw [11] (fun i W => ∃ j : Nat, j ≤ k ∧ i = .int .i64 j ∧ Hid (BR W w.heap.size (lj k n j)) ∧ Hid (Below w.heap.size w W)) (fun i _ => k - (intOf i).toNat)
  case atStart => exact ⟨0, Nat.zero_le _, rfl, HB0.out, HW0.out⟩
  case round =>
    obtain ⟨j, hj, rfl, HB, HW⟩ := hrel
    by_cases hlt : j < k
    · have hl := lj_len (k := k) (n := n) hj
      have hx := HB.out.cell j (by rw [hl]; exact hlt)
      have hf := HB.out.frozen j (by rw [hl]; exact hlt)
      generalize (((lj k n j).getD j 0#8).toNat : Int) = x at hx
      have hv : ((n : Int) / 2 ^ (8 * (k - 1 - j)) % 256) = (((UInt8.ofNat (n / 256 ^ (k - 1 - j))).toBitVec).toNat : Int) := by
        show _ = (((UInt8.ofNat (n / 256 ^ (k - 1 - j))).toNat : Nat) : Int)
        rw [UInt8.toNat_ofNat', show (256 : Nat) ^ (k - 1 - j) = 2 ^ (8 * (k - 1 - j)) by rw [Nat.pow_mul]]
        rw [Int.natCast_emod, Int.natCast_ediv, Int.natCast_pow]
        rfl
      have HB1 := hid (HB.out.set j (UInt8.ofNat (n / 256 ^ (k - 1 - j))).toBitVec)
      rw [lj_set hlt, ← hv] at HB1
      have HW1 := hid (HW.out.setCell (p := ⟨w.heap.size, j, none⟩) (Nat.le_refl _) (.int .u8 ((n : Int) / 2 ^ (8 * (k - 1 - j)) % 256)))
      clear hv
      go_wp2
      go_roundw
      case rel => exact ⟨j + 1, by omega, by go_num, HB1.out, HW1.out⟩
      case measure => simp [intOf]; omega
    · obtain rfl : j = k := by omega
      have hcv := br_text (cap := j) HB.out
      rw [lj_len (Nat.le_refl _), lj_end] at hcv
      go_wp2
      go_ret
      exact ⟨rfl, HW.out⟩
theorem or_byte (n : Nat) (b : UInt8) (h : n < 72057594037927936) : bits BinOp.or IntKind.u64 ((n : Int) * 256) (b.toNat : Int) = (n : Int) * 256 + (b.toNat : Int) := by
  have hb := b.toNat_lt
  have e : ((n : Int) * 256) = ((n * 256 : Nat) : Int) := by rw [Int.natCast_mul]; rfl
  rw [e, u64_or_nat _ _ (by omega) (by omega)]
  have := Nat.two_pow_add_eq_or_of_lt (i := 8) (show b.toNat < 2 ^ 8 from hb) n
  rw [show n * 256 = 2 ^ 8 * n by omega, ← this]
  rw [Int.natCast_add, Int.natCast_mul, Int.mul_comm]
theorem nb_snoc (l : Bs) (b : UInt8) : nb (l ++ [b]) = nb l * 256 + b.toNat := by unfold nb; rw [List.foldl_append]; rfl
theorem nb_small (l : Bs) (h : l.length ≤ 7) : nb l < 72057594037927936 := by
  have := nb_lt l 0 0 (by simp)
  have h2 : 256 ^ (0 + l.length) ≤ 256 ^ 7 := Nat.pow_le_pow_right (by decide) (by omega)
  exact Nat.lt_of_lt_of_le this h2
set_option maxHeartbeats 1000000 in
/-- numberOf -/
theorem numberOf_any (s : Bs) (hs : s.length ≤ 8) (w : World) : Calls Tryz.prog 83 #[.string ⟨s.toArray⟩] w fun e w' => e = .returned (.int .u64 (nb s : Int)) ∧ Below w.heap.size w w' := by
  have kc := fun (w : World) (s : ByteArray) => Lib.run_convert_string_bytes (P := Tryz.prog) w 9 126 5 s Tryz.underlying9 Tryz.underlying126 Tryz.underlying5
  have HR := hid (br_new w s)
  have HW := hid (bytesWorld_below w 5 ⟨s.toArray⟩)
  go_enter Tryz.func83, Tryz.ntmps83
  go_wp2
  clear kc
  generalize Lib.bytesWorld w 5 ⟨s.toArray⟩ = w1 at *
  go_loop [3, 9] (fun d i => ∃ k : Nat, k ≤ s.length ∧ i = .int .i64 k ∧ d = .int .u64 (nb (s.take k) : Int)) (fun _ i => s.length - (intOf i).toNat)
  case atStart => exact ⟨0, Nat.zero_le _, rfl, rfl⟩
  case round =>
    obtain ⟨k, hk, rfl, rfl⟩ := hrel
    by_cases hlt : k < s.length
    · have hx := HR.out.cell k (by rw [List.length_map]; exact hlt)
      have hg : ((s.map UInt8.toBitVec).getD k 0#8).toNat = s[k].toNat := by simp [List.getD, hlt]
      rw [hg] at hx
      have hn := nb_small (s.take k) (by rw [List.length_take]; omega)
      have ho := or_byte (nb (s.take k)) s[k] hn
      have HN : Hid (nb (s.take (k + 1)) = nb (s.take k) * 256 + s[k].toNat) := by rw [List.take_succ_eq_append_getElem hlt]; exact nb_snoc _ _
      have hb := s[k].toNat_lt
      generalize nb (s.take k) = M at *
      generalize s[k].toNat = x at *
      clear hg
      go_wp2
      go_round
      case rel => exact ⟨k + 1, by omega, by go_num, by rw [HN.out]; exact congrArg (Value.int .u64) (by omega)⟩
      case measure => simp [intOf]; omega
    · have e : s.take k = s := List.take_of_length_le (by omega)
      rw [e]
      go_wp2
      go_ret
      exact ⟨rfl, HW.out⟩

end Go.Proofs.YtbfllifgmlkndaaGreatDoor

namespace Go.Proofs.YtbfllifgmlkndaaGreatDoor
open Go.RowKit
open Crc

theorem join_flat : ∀ l : List Bs, Lib.join l [] = l.flatten
  | [] => rfl
  | a :: l => by
    rw [Lib.join_cons, List.flatten_cons]
    unfold Lib.joinTail
    rw [List.map_id'' (fun x => List.nil_append x)]
theorem bytes_append (a b : List UInt8) : ((⟨a.toArray⟩ : ByteArray) ++ ⟨b.toArray⟩) = ⟨(a ++ b).toArray⟩ := by
  apply ByteArray.ext
  simp
theorem ret_app {a b c : Bs} (h : a ++ b = c) : Ending.returned (.string ((⟨a.toArray⟩ : ByteArray) ++ ⟨b.toArray⟩)) = .returned (.string ⟨c.toArray⟩) := by rw [bytes_append, h]
set_option maxHeartbeats 1000000 in
/-- summed -/
theorem summed_any (bk c : Nat) (L : List Bs) (w : World) (hE : Env w) (hc : ∀ (j : Nat) (x : Bs), L[j]? = some x → w.cell? ⟨bk, 0 + j, none⟩ = some (.string ⟨x.toArray⟩)) (hb : bk < w.heap.size) (hL : L.length ≤ 7) (hcap : L.length ≤ c) (hl : L.flatten.length ≤ 1000000) :
    Calls Tryz.prog 85 #[.slice (some ⟨bk, 0, none⟩) L.length c] w fun e w' => e = .returned (.string ⟨(L.flatten ++ be 2 (sumN L.flatten)).toArray⟩) ∧ Below w.heap.size w w' := by
  have hm : (L.map fun b => (⟨b.toArray⟩ : ByteArray)).map (·.data.toList) = L := by
    rw [List.map_map]; exact List.map_id'' (fun x => by simp) L
  have HJ := hid (Tryz.strings_Join bk 0 c (L.map fun b => ⟨b.toArray⟩) ⟨#[]⟩ w (fun j x hx => by
    rw [List.getElem?_map] at hx
    cases h : L[j]? with
    | none => rw [h] at hx; cases hx
    | some y => rw [h] at hx; obtain rfl := Option.some.inj hx; exact hc j y h) hb (by rw [List.length_map]; omega) (by rw [List.length_map]; exact hcap) (by rw [hm, show (⟨#[]⟩ : ByteArray).data.toList = [] from rfl, join_flat]; omega))
  rw [hm, List.length_map, show (⟨#[]⟩ : ByteArray).data.toList = [] from rfl, join_flat] at HJ
  have kc := fun (w : World) (s : ByteArray) => Lib.run_convert_string_bytes (P := Tryz.prog) w 9 126 5 s Tryz.underlying9 Tryz.underlying126 Tryz.underlying5
  have HN := hid (fun n w => number_any 2 n (by decide) w)
  have HE := hid hE
  have HS := sumN_lt L.flatten
  have HSu : Hid (∀ (c : Nat) (w : World), Env w → Calls Tryz.prog 66 #[.slice (some ⟨w.heap.size, 0, none⟩) L.flatten.length c] (Lib.bytesWorld w 5 ⟨L.flatten.toArray⟩) fun e w' => e = .returned (.int .u16 (sumN L.flatten : Int)) ∧ w' = Lib.bytesWorld w 5 ⟨L.flatten.toArray⟩) := fun c w hE => sum_of L.flatten c w hE.tab hE.room (by omega)
  generalize L.flatten = T at *
  generalize sumN T = z at *
  clear hc hE hm
  go_enter Tryz.func85, Tryz.ntmps85
  go_wp2_with fail
  refine HJ.out.mono ?_; rintro e w1 ⟨rfl, hb1⟩
  have HW1 := hid hb1
  have HE1 := hid (HE.out.below hb1 HE.out.room)
  clear hb1
  go_wp2_with fail
  refine (HSu.out _ _ HE1.out).mono ?_; rintro e w2 ⟨rfl, rfl⟩
  have HW2 := hid (HW1.out.trans ((bytesWorld_below w1 5 ⟨T.toArray⟩).mono HW1.out.size))
  go_wp2_with fail
  refine (HN.out z _).mono ?_; rintro e w3 ⟨rfl, hb3⟩
  have HW3 := hid (HW2.out.trans (hb3.mono HW2.out.size))
  clear hb3
  have hz2 := be_len 2 z
  obtain ⟨Z, hZ⟩ : ∃ Z, Z = be 2 z := ⟨_, rfl⟩
  have HZ := hid hZ
  rw [← hZ] at hz2 ⊢
  clear hZ
  go_wp2
  go_ret
  exact ⟨ret_app (by rw [HZ.out]), HW3.out⟩

end Go.Proofs.YtbfllifgmlkndaaGreatDoor
