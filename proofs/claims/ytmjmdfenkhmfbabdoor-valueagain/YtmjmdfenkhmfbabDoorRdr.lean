/- The program's reader: take, number, text, part, many, pair. -/
import Derived.Test.YtmjmdfenkhmfbabDoorVBase
namespace Go.Proofs.YtmjmdfenkhmfbabDoor
open Go.RowKit

/-- a reader that has still to read r -/
abbrev Box (w : World) (b : Nat) (r : Nm) : Prop := w.heap[b]? = some (.cells #[txt r] 37 (0, 0))
/-- nothing but the reader has turned; it has still to read r -/
structure RT (b : Nat) (w w' : World) (r : Nm) : Prop where
  keep : Keep (· ≠ b) w w'
  box : Box w' b r
theorem RT.trans {b : Nat} {x y z : World} {r q : Nm} (h : RT b x y r) (k : RT b y z q) : RT b x z q := ⟨h.keep.trans k.keep, k.box⟩
theorem RT.below {b : Nat} {x y z : World} {r : Nm} (h : RT b x y r) (k : Below y.heap.size y z) : RT b x z r := ⟨h.keep.trans (Keep.of_below k), (k.block b (Array.getElem?_eq_some_iff.1 h.box).1).trans h.box⟩
theorem Box.set {w : World} {b : Nat} {r : Nm} (h : Box w b r) (q : Nm) : RT b w (w.setCell ⟨b, 0, none⟩ (txt q)) q := by
  refine ⟨⟨rfl, rfl, rfl, (Below.refl 0 w |>.setCell (p := ⟨b, 0, none⟩) (Nat.zero_le _) (txt q)).size, fun k _ hk => ?_⟩, ?_⟩
  · exact Below.heap_setCell w ⟨b, 0, none⟩ (txt q) k hk
  · exact one_setCell h
set_option maxHeartbeats 1000000 in
set_option maxRecDepth 100000 in
theorem take_core (b : Nat) (T : ByteArray) (n : Nat) (w : World) (hc : w.cell? ⟨b, 0, none⟩ = some (.string T)) (hf : w.frozen? ⟨b, 0, none⟩ = false) (hT : (T.size : Int) ≤ 140737488351232) (hn : (n : Int) ≤ 4294967296) :
    Calls Tryd.prog 33 #[.pointer (some ⟨b, 0, none⟩), .int .i64 n] w fun e w' => e = .returned (.string (T.extract 0 (min (n : Int) (T.size : Int)).toNat)) ∧ Hid (w' = w.setCell ⟨b, 0, none⟩ (.string (T.extract (min (n : Int) (T.size : Int)).toNat T.size))) := by
  go_enter Tryd.func33, Tryd.ntmps33
  go_wp2_with fail
  go_ret
  exact ⟨rfl, rfl⟩
/-- the next n bytes, or all that are left -/
theorem take_any (b : Nat) (r : Nm) (n : Nat) (w : World) (h : Box w b r) (hr : r.length ≤ 140737488351232) (hn : n ≤ 4294967296) :
    Calls Tryd.prog 33 #[.pointer (some ⟨b, 0, none⟩), .int .i64 n] w fun e w' => e = .returned (txt (r.take n)) ∧ Hid (RT b w w' (r.drop n)) := by
  have hs : (⟨r.toArray⟩ : ByteArray).size = r.length := by simp [ByteArray.size]
  have e1 : (⟨r.toArray⟩ : ByteArray).extract 0 (min (n : Int) ((⟨r.toArray⟩ : ByteArray).size : Int)).toNat = ⟨(r.take n).toArray⟩ := by
    apply ByteArray.ext
    rw [hs, ByteArray.data_extract]
    by_cases hh : n ≤ r.length
    · rw [show (min (n : Int) (r.length : Int)).toNat = n by omega]; simp
    · rw [show (min (n : Int) (r.length : Int)).toNat = r.length by omega, List.take_of_length_le (by omega)]; simp
  have e2 : (⟨r.toArray⟩ : ByteArray).extract (min (n : Int) ((⟨r.toArray⟩ : ByteArray).size : Int)).toNat (⟨r.toArray⟩ : ByteArray).size = ⟨(r.drop n).toArray⟩ := by
    apply ByteArray.ext
    rw [hs, ByteArray.data_extract]
    by_cases hh : n ≤ r.length
    · rw [show (min (n : Int) (r.length : Int)).toNat = n by omega]; simp [List.take_of_length_le]
    · rw [show (min (n : Int) (r.length : Int)).toNat = r.length by omega, List.drop_of_length_le (show r.length ≤ n by omega)]; simp
  have hk := take_core b ⟨r.toArray⟩ n w (cell_of_one h) (free_of_one h) (by rw [hs]; omega) (by omega)
  rw [e1, e2] at hk
  refine hk.mono ?_
  rintro e w' ⟨rfl, hw⟩
  refine ⟨rfl, ?_⟩
  rw [Hid, hw.out]
  exact Box.set h _
theorem i64_or_nat (a b : Nat) (ha : a < 9223372036854775808) (hb : b < 9223372036854775808) : bits .or .i64 (a : Int) (b : Int) = ((a ||| b : Nat) : Int) := by
  have hx : a ||| b < 2 ^ 63 := Nat.or_lt_two_pow (by omega) (by omega)
  show IntKind.i64.wrap ((BitVec.ofInt 64 (a : Int) ||| BitVec.ofInt 64 (b : Int)).toNat : Int) = _
  rw [BitVec.toNat_or, ofInt_u64 a (by omega), ofInt_u64 b (by omega), IntKind.wrap_i64]
  omega
/-- a number's next byte -/
theorem or_byte (n : Nat) (b : UInt8) (h : n < 16777216) : bits BinOp.or IntKind.i64 ((n : Int) * 256) (b.toNat : Int) = (n * 256 + b.toNat : Nat) := by
  have hb := b.toNat_lt
  have e := i64_or_nat (n * 256) b.toNat (by omega) (by omega)
  rw [show (((n * 256 : Nat)) : Int) = (n : Int) * 256 by omega] at e
  rw [e]
  congr 1
  rw [Nat.mul_comm, show (256 : Nat) = 2 ^ 8 from rfl, Nat.two_pow_add_eq_or_of_lt (by omega)]
set_option maxHeartbeats 1000000 in
set_option maxRecDepth 100000 in
/-- a number of so many bytes -/
theorem number_any (b : Nat) (r : Nm) (n : Nat) (w : World) (h : Box w b r) (hr : r.length ≤ 140737488351232) (hn : n ≤ 4) :
    Calls Tryd.prog 18 #[.pointer (some ⟨b, 0, none⟩), .int .i64 n] w fun e w' => e = .returned (.int .i64 (numN (r.take n) : Int)) ∧ Hid (RT b w w' (r.drop n)) := by
  have HT := hid (take_any b r n w h hr (by omega))
  have hlt : (r.take n).length ≤ 4 := by simp; omega
  generalize r.take n = t at *
  generalize r.drop n = q at *
  have htz : (t.length : Int) ≤ 4 := by omega
  have kc := fun (w : World) (s : ByteArray) => Lib.run_convert_string_bytes (P := Tryd.prog) w 9 41 5 s Tryd.underlying9 Tryd.underlying41 Tryd.underlying5
  clear h hr
  go_enter Tryd.func18, Tryd.ntmps18
  go_wp2_with fail
  refine HT.out.mono ?_; rintro e w1 ⟨rfl, hh⟩
  have HB := hid (bytesWorld_below w1 5 ⟨t.toArray⟩)
  have HW := hid (hh.out.below HB.out)
  have HC : Hid (∀ j (hj : j < t.length), (Lib.bytesWorld w1 5 ⟨t.toArray⟩).cell? ⟨w1.heap.size, j, none⟩ = some (.int .u8 (t[j].toNat : Int))) := fun j hj => by
    rw [Lib.bytesWorld_cell w1 5 ⟨t.toArray⟩ j (by simpa [ByteArray.size] using hj)]
    simp [List.getD, hj]
  clear hh
  go_wp2_with fail
  clear kc
  go_loopw [5, 7, 13] (fun v5 _ v13 W => ∃ k : Nat, v13 = .int .i64 k ∧ k ≤ t.length ∧ v5 = .int .i64 (numN (t.take k) : Int) ∧ W = Lib.bytesWorld w1 5 ⟨t.toArray⟩) (fun _ _ v13 _ => t.length - (intOf v13).toNat)
  case atStart => exact ⟨0, rfl, Nat.zero_le _, rfl, rfl⟩
  case round =>
    obtain ⟨k, rfl, hk, rfl, rfl⟩ := hrel
    by_cases hlt2 : k < t.length
    · have hkz : (k : Int) < (t.length : Int) := by omega
      have x0 := HC.out k hlt2
      have HS := hid (numN_snoc (t.take k) t[k])
      rw [← List.take_succ_eq_append_getElem hlt2] at HS
      have hN : numN (t.take k) < 16777216 := numN_le _ 3 (by simp; omega)
      have ho := or_byte (numN (t.take k)) t[k] hN
      have hxb := t[k].toNat_lt
      obtain ⟨N1, hN1'⟩ : ∃ N1, N1 = numN (t.take (k + 1)) := ⟨_, rfl⟩
      rw [← hN1'] at HS
      have HE := hid hN1'
      clear hN1'
      generalize numN (t.take k) = N0 at *
      generalize t[k].toNat = x at *
      have hxz : (x : Int) < 256 := by omega
      have hNz : (N0 : Int) < 16777216 := by omega
      have hN1 : ((N0 * 256 + x : Nat) : Int) = (N1 : Int) := by rw [HS.out]
      rw [hN1] at ho
      clear hN1 hN hxb
      go_wp2_with fail
      exact ⟨⟨k + 1, by go_num, by omega, by rw [HE.out], trivial⟩, by simp [intOf]; omega⟩
    · go_wp2_with fail
      go_ret
      rw [List.take_of_length_le (by omega)]
      exact ⟨rfl, HW.out⟩
set_option maxHeartbeats 1000000 in
set_option maxRecDepth 100000 in
/-- a text -/
theorem rdtext_any (b : Nat) (r : Nm) (w : World) (h : Box w b r) (hr : r.length ≤ 140737488351232) :
    Calls Tryd.prog 19 #[.pointer (some ⟨b, 0, none⟩)] w fun e w' => e = .returned (txt (tkT r).1) ∧ Hid (RT b w w' (tkT r).2) := by
  have H1 := hid (number_any b r 2 w h hr (by decide))
  have hN := numN_2 r
  have HT : Hid (∀ W, Box W b (r.drop 2) → Calls Tryd.prog 33 #[.pointer (some ⟨b, 0, none⟩), .int .i64 (numN (r.take 2) : Int)] W fun e w' => e = .returned (txt (tkT r).1) ∧ Hid (RT b W w' (tkT r).2)) := fun W hW => take_any b (r.drop 2) (numN (r.take 2)) W hW (by simp; omega) (by omega)
  generalize numN (r.take 2) = n at *
  generalize tkT r = q at *
  clear h hr
  go_enter Tryd.func19, Tryd.ntmps19
  go_wp2_with fail
  refine H1.out.mono ?_; rintro e w1 ⟨rfl, hh⟩
  have HR := hid hh.out
  clear hh
  go_wp2_with fail
  refine (HT.out _ HR.out.box).mono ?_; rintro e w2 ⟨rfl, hh⟩
  have HR2 := hid (HR.out.trans hh.out)
  clear hh
  go_wp2_with fail
  go_ret
  exact ⟨rfl, HR2.out⟩
theorem wrap_sg {n : Nat} (h : n < 4294967296) : IntKind.i32.wrap (n : Int) = sg n := by
  rw [IntKind.wrap_i32]
  unfold sg
  split <;> omega
set_option maxHeartbeats 1000000 in
set_option maxRecDepth 100000 in
/-- a point's part -/
theorem rdpart_any (b : Nat) (r : Nm) (w : World) (h : Box w b r) (hr : r.length ≤ 140737488351232) :
    Calls Tryd.prog 24 #[.pointer (some ⟨b, 0, none⟩)] w fun e w' => e = .returned (.int .i64 (sg (numN (r.take 4)))) ∧ Hid (RT b w w' (r.drop 4)) := by
  have H1 := hid (number_any b r 4 w h hr (by decide))
  have hN := numN_4 r
  have hw := wrap_sg hN
  have hs : -2147483648 ≤ sg (numN (r.take 4)) ∧ sg (numN (r.take 4)) < 2147483648 := by
    unfold sg
    split <;> omega
  obtain ⟨s0, s1⟩ := hs
  generalize sg (numN (r.take 4)) = S at *
  generalize numN (r.take 4) = n at *
  have hnz : (n : Int) < 4294967296 := by omega
  have hw2 : IntKind.i64.wrap S = S := by rw [IntKind.wrap_i64]; omega
  clear h hr hN
  go_enter Tryd.func24, Tryd.ntmps24
  go_wp2_with fail
  refine H1.out.mono ?_; rintro e w1 ⟨rfl, hh⟩
  go_wp2_with fail
  go_ret
  exact ⟨rfl, hh.out⟩
set_option maxHeartbeats 1000000 in
set_option maxRecDepth 100000 in
/-- how many things follow -/
theorem rdmany_any (b : Nat) (r : Nm) (w : World) (h : Box w b r) (hr : r.length ≤ 140737488351232) :
    Calls Tryd.prog 21 #[.pointer (some ⟨b, 0, none⟩)] w fun e w' => e = .returned (.int .i64 (many r : Int)) ∧ Hid (RT b w w' (r.drop 2)) := by
  have H1 := hid (number_any b r 2 w h hr (by decide))
  have hN := numN_2 r
  have hm : (many r : Int) = min (numN (r.take 2) : Int) 256 := by unfold many; omega
  rw [hm]
  generalize numN (r.take 2) = n at *
  have hnz : (n : Int) < 65536 := by omega
  clear h hr hN hm
  go_enter Tryd.func21, Tryd.ntmps21
  go_wp2_with fail
  refine H1.out.mono ?_; rintro e w1 ⟨rfl, hh⟩
  go_wp2_with fail
  go_ret
  exact ⟨rfl, hh.out⟩
/-- a pair's cells -/
abbrev pvv (p : Nm × Nm) : Value := .agg #[txt p.1, txt p.2]
theorem infoPr (c : Array Value) (h : c.size = 2) : (Tryd.prog.info? 47).map (·.size) = some c.size := by
  rw [h]; kernel_rfl
theorem ret_pair {fn : Func} {p : Tmp} (h : fn.results = #[.cell p 47]) {tmps : Array Value} {w : World} {b : Nat} {c0 c1 : Value} (hp : tmps.getD p undef = .pointer (some ⟨b, 0, none⟩)) (hB : w.heap[b]? = some (.cells #[c0, c1] 47 (0, 0))) :
    (results fn tmps).run Tryd.prog w = .ok (.agg #[c0, c1]) w :=
  results_cell_row h tmps w b 47 #[c0, c1] (0, 0) _ hp hB Tryd.underlying47 rfl (infoPr _ rfl)
/-- a block that is not the reader's is written -/
theorem RT.set {b : Nat} {x y : World} {r : Nm} (h : RT b x y r) {g : Nat} (hg : x.heap.size ≤ g) (hb : b < x.heap.size) (k : Nat) (u : Value) : RT b x (y.setCell ⟨g, k, none⟩ u) r := by
  refine ⟨⟨h.keep.os, h.keep.tape, h.keep.output, Nat.le_trans h.keep.size (Below.refl 0 y |>.setCell (p := ⟨g, k, none⟩) (Nat.zero_le _) u).size, fun i hi hk => ?_⟩, ?_⟩
  · rw [Below.heap_setCell y ⟨g, k, none⟩ u i (by simp only; omega)]; exact h.keep.block i hi hk
  · show (y.setCell _ _).heap[b]? = _
    rw [Below.heap_setCell y ⟨g, k, none⟩ u b (by simp only; omega)]; exact h.box
/-- from a world ahead of what is new -/
theorem RT.from {b : Nat} {w x y : World} {r : Nm} (h : RT b x y r) (k : Below w.heap.size w x) : RT b w y r := ⟨(Keep.of_below k).trans h.keep, h.box⟩
set_option maxHeartbeats 1000000 in
set_option maxRecDepth 100000 in
/-- a pair -/
theorem rdpair_any (b : Nat) (r : Nm) (w : World) (h : Box w b r) (hr : r.length ≤ 140737488351232) :
    Calls Tryd.prog 22 #[.pointer (some ⟨b, 0, none⟩)] w fun e w' => e = .returned (pvv (tkP r).1) ∧ Hid (RT b w w' (tkP r).2) := by
  have hne : b ≠ w.heap.size := by have := (Array.getElem?_eq_some_iff.1 h).1; omega
  have H1 := hid (fun W k => rdtext_any b r W k hr)
  have H2 := hid (fun W k => rdtext_any b (tkT r).2 W k (Nat.le_trans (tkT_rest r) hr))
  have HB := hid h
  have e1 : tkP r = (((tkT r).1, (tkT (tkT r).2).1), (tkT (tkT r).2).2) := rfl
  rw [e1]
  generalize (tkT r).1 = x at *
  generalize tkT (tkT r).2 = q at *
  generalize (tkT r).2 = r2 at *
  clear h hr e1
  have HA := hid (below_alloc w (.cells #[txt [], txt []] 47))
  have HN := hid (heap_alloc_new w (.cells #[txt [], txt []] 47))
  go_enter Tryd.func22, Tryd.ntmps22
  go_wp2_with fail
  refine (H1.out _ ((HA.out.block b (Array.getElem?_eq_some_iff.1 HB.out).1).trans HB.out)).mono ?_; rintro e w1 ⟨rfl, hh⟩
  have HR := hid hh.out
  clear hh
  go_wp2_with fail
  refine (H2.out _ HR.out.box).mono ?_; rintro e w2 ⟨rfl, hh⟩
  have HR2 := hid (HR.out.trans hh.out)
  have HX := hid ((HR2.out.keep.block w.heap.size (by simp) (Ne.symm hne)).trans HN.out)
  clear hh
  have c0 := cell_of_row w2 w.heap.size 0 _ _ _ HX.out
  have c1 := cell_of_row w2 w.heap.size 1 _ _ _ HX.out
  have f0 := frozen_of_row w2 w.heap.size 0 _ _ HX.out
  have f1 := frozen_of_row w2 w.heap.size 1 _ _ HX.out
  go_wp2_with fail
  refine bodyPost_ret (v := pvv (x, q.1)) ?_ rfl ?_
  · exact ret_pair rfl rfl (heap_setCell_same _ _ 1 _ _ _ (heap_setCell_same _ _ 0 _ _ _ HX.out))
  · exact ⟨rfl, ((HR2.out.from HA.out).set (Nat.le_refl _) (Array.getElem?_eq_some_iff.1 HB.out).1 0 _).set (Nat.le_refl _) (Array.getElem?_eq_some_iff.1 HB.out).1 1 _⟩

end Go.Proofs.YtmjmdfenkhmfbabDoor
