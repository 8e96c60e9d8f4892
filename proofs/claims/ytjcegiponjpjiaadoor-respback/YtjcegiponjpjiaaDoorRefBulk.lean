/- An argument, by the document: ref bulk. -/
import Derived.Test.YtjcegiponjpjiaaDoorEndWays
import Derived.Test.YtjcegiponjpjiaaDoorRefNumber
import Derived.Test.YtjcegiponjpjiaaDoorRefParts
import Derived.Test.YtjcegiponjpjiaaDoorNext2
import Derived.Great.BuildSlice
import Derived.Maps.AppendAt
namespace Go.Proofs.YtjcegiponjpjiaaDoor
open Go.RowKit

theorem infoGot (x y z : Value) : (Tryd.prog.info? 47).map (·.size) = some (#[x, y, z] : Array Value).size := by
  show _ = some 3; kernel_rfl
theorem ret_got {fn : Func} {p : Tmp} (h : fn.results = #[.cell p 47]) {tmps : Array Value} {w : World} {b : Nat} {x y z : Value} (hp : tmps.getD p undef = .pointer (some ⟨b, 0, none⟩)) (hB : w.heap[b]? = some (.cells #[x, y, z] 47 (0, 0))) :
    (results fn tmps).run Tryd.prog w = .ok (.agg #[x, y, z]) w :=
  results_cell_row h tmps w b 47 #[x, y, z] (0, 0) _ hp hB Tryd.underlying47 rfl (infoGot x y z)
theorem oneG (a : Option Addr) (m n : Nat) (x y : Int) : (#[.slice a m n, .int .i64 x, .int .i64 y] : Array Value).all (·.oneCell') = true := by simp [Value.oneCell']
theorem below_setRow {n g : Nat} {a w : World} (h : Below n a w) (hg : n ≤ g) (c : Array Value) : Below n a (w.setRow g c) :=
  ⟨h.os, h.tape, h.output, by simp [World.setRow]; exact h.size, fun k hk => by rw [setRow_other _ _ _ _ (by omega)]; exact h.block k hk⟩
/-- the three cells of what is told, laid down -/
theorem got_done {w w' : World} {old : Array Value} (x y z : Value) (hw : w'.heap[w.heap.size]? = some (.cells old 47 (0, 0))) (hb : Below w.heap.size w w') :
    (w'.setRow w.heap.size #[x, y, z]).heap[w.heap.size]? = some (.cells #[x, y, z] 47 (0, 0)) ∧ Below w.heap.size w (w'.setRow w.heap.size #[x, y, z]) :=
  ⟨setRow_heap w' _ _ _ _ _ hw, below_setRow hb (Nat.le_refl _) _⟩
/-- as the document tells an error: 0 where not all is there -/
def errOf (e : Int) : Int := if e = -1 then 0 else e
/-- what ref bulk tells -/
def BulkTold (B : Nat) (W : World) (s : List UInt8) (a : Nat) (v : Value) : Prop := match bulk (s.drop a) with
  | .stop e => v = .agg #[.slice none 0 0, .int .i64 0, .int .i64 (errOf e)]
  | .got l r => ∃ A x, l = [x] ∧ v = .agg #[.slice (some ⟨A, 0, none⟩) 1 1, .int .i64 ((s.length - r.length : Nat) : Int), .int .i64 0] ∧ B ≤ A ∧ W.heap[A]? = some (.cells #[.string ⟨x.toArray⟩] 9 (0, 0))
theorem bulkTold_stop {B : Nat} {W : World} {s : List UInt8} {a : Nat} {e : Int} (h : bulk (s.drop a) = .stop e) {E : Int} (hE : E = errOf e) : BulkTold B W s a (.agg #[.slice none 0 0, .int .i64 0, .int .i64 E]) := by
  unfold BulkTold; rw [h, hE]
theorem head_drop {s : List UInt8} {a : Nat} (h : a < s.length) : (s.drop a).head? = some s[a] := by
  rw [List.head?_eq_getElem?, List.getElem?_drop, Nat.add_zero, List.getElem?_eq_getElem h]
theorem extract_take {s : List UInt8} {a k : Nat} : ((⟨s.toArray⟩ : ByteArray).extract a (a + k)) = ⟨((s.drop a).take k).toArray⟩ := by
  rw [extract_cut]
  unfold cutOut
  rw [List.drop_take, Nat.add_sub_cancel_left]
theorem second_alloc (w : World) (o1 o2 : Obj) : ((w.alloc o1).alloc o2).heap[w.heap.size + 1]? = some o2 := by
  have := heap_alloc_new (w.alloc o1) o2
  rwa [show (w.alloc o1).heap.size = w.heap.size + 1 by simp] at this
set_option maxHeartbeats 2000000 in
set_option maxRecDepth 100000 in
theorem rbulk_any (s : List UInt8) (a : Nat) (w : World) (ha : a ≤ s.length) (hl : s.length ≤ 140737488300000) :
    Calls Tryd.prog 33 #[.string ⟨s.toArray⟩, .int .i64 a] w fun e w' => ∃ v, e = .returned v ∧ Hid (BulkTold w.heap.size w' s a v ∧ Below w.heap.size w w') := by
  have HW0 := hid (below_alloc w (.cells #[.slice none 0 0, .int .i64 0, .int .i64 0] 47))
  have HZ0 : Hid ((w.alloc (.cells #[.slice none 0 0, .int .i64 0, .int .i64 0] 47)).heap[w.heap.size]? = some (.cells #[.slice none 0 0, .int .i64 0, .int .i64 0] 47 (0, 0))) := heap_alloc_new w _
  have hdl : (s.drop a).length = s.length - a := by simp
  have HL := hid fun W => rline_any s a W ha (by omega)
  by_cases hA : ∃ h : a < s.length, s[a] ≠ 36
  · obtain ⟨h1, h2⟩ := hA
    have HT : Hid (∀ B W, BulkTold B W s a (.agg #[.slice none 0 0, .int .i64 0, .int .i64 31])) := fun B W => bulkTold_stop (e := 31) (by
      have hne : s.drop a ≠ [] := fun e => by rw [e] at hdl; simp at hdl; omega
      have hse : sizeErr (s.drop a) = 31 := by
        unfold sizeErr
        rw [if_pos ⟨hne, by rw [head_drop h1]; intro e; injection e with e; exact h2 e⟩]
      rw [bulk_bad (by rw [hse]; decide), hse]) rfl
    have hby := byte_is h1 36 36 (by decide)
    rw [decide_eq_false h2] at hby
    have hby2 : ((((⟨s.toArray⟩ : ByteArray)[a]'(by simpa [ByteArray.size] using h1)).toNat : Int) != 36) = true := by simp [bne, hby]
    have haz : (a : Int) < (s.length : Int) := by omega
    clear HL hdl h2
    go_enter Tryd.func33, Tryd.ntmps33
    go_wp2
    refine bodyPost_ret (v := .agg #[.slice none 0 0, .int .i64 0, .int .i64 31]) ?_ rfl ?_
    · exact ret_got rfl rfl (heap_alloc_new w _)
    · exact ⟨_, rfl, HT.out _ _, below_alloc w _⟩
  · have hnot : ¬ (s.drop a ≠ [] ∧ (s.drop a).head? ≠ some 36) := by
      rintro ⟨h1, h2⟩
      have h3 : a < s.length := by
        rcases Nat.lt_or_ge a s.length with h | h
        · exact h
        · exact absurd (List.drop_eq_nil_of_le h) h1
      exact hA ⟨h3, fun e => h2 (by rw [head_drop h3, e])⟩
    have hway : (s.length : Int) ≤ (a : Int) ∨ ∃ h : a < s.length, ((((⟨s.toArray⟩ : ByteArray)[a]'(by simpa [ByteArray.size] using h)).toNat : Nat) : Int) = 36 := by
      rcases Nat.lt_or_ge a s.length with h | h
      · refine .inr ⟨h, ?_⟩
        have h36 : s[a] = 36 := Classical.byContradiction fun e => hA ⟨h, e⟩
        rw [byteAt h, h36]; rfl
      · exact .inl (by omega)
    have HWay := hid hway
    clear hA hway
    rcases lineAt_cases (s.drop a) with ⟨h1, _⟩ | ⟨k, h1, _, h3, h4⟩
    · have hse : sizeErr (s.drop a) = noLine (s.drop a) := by unfold sizeErr; rw [if_neg hnot, h1]
      have hb := bulk_bad (s := s.drop a) (by rw [hse]; exact noLine_ne _)
      rw [hse] at hb
      have hlv := lineVal_none h1
      rw [hlv] at HL
      by_cases h5 : 512 ≤ s.length - a
      · have HT : Hid (∀ B W, BulkTold B W s a (.agg #[.slice none 0 0, .int .i64 0, .int .i64 33])) := fun B W => bulkTold_stop hb (by unfold noLine; rw [hdl, if_pos h5]; rfl)
        rw [if_pos h5] at HL
        clear hb hse hlv h1 hnot hdl
        rcases HWay.out with hz | ⟨hz, hy⟩
        · omega
        · clear HWay
          go_enter Tryd.func33, Tryd.ntmps33
          go_wp2_with fail
          refine (HL.out _).mono ?_; rintro e w1 ⟨rfl, rfl⟩
          go_wp2
          refine bodyPost_ret (v := .agg #[.slice none 0 0, .int .i64 0, .int .i64 33]) ?_ rfl ?_
          · exact ret_got rfl rfl (heap_alloc_new w _)
          · exact ⟨_, rfl, HT.out _ _, below_alloc w _⟩
      · have HT : Hid (∀ B W, BulkTold B W s a (.agg #[.slice none 0 0, .int .i64 0, .int .i64 0])) := fun B W => bulkTold_stop hb (by unfold noLine; rw [hdl, if_neg h5]; rfl)
        rw [if_neg h5] at HL
        clear hb hse hlv h1 hnot hdl
        rcases HWay.out with hz | ⟨hz, hy⟩
        all_goals
          clear HWay
          go_enter Tryd.func33, Tryd.ntmps33
          go_wp2_with fail
          refine (HL.out _).mono ?_; rintro e w1 ⟨rfl, rfl⟩
          go_wp2
          refine bodyPost_ret (v := .agg #[.slice none 0 0, .int .i64 0, .int .i64 0]) ?_ rfl ?_
          · exact ret_got rfl rfl (heap_alloc_new w _)
          · exact ⟨_, rfl, HT.out _ _, below_alloc w _⟩
    · have hlv := lineVal_some h1
      rw [hlv] at HL
      have hal : a < s.length := by omega
      obtain ⟨K, hK⟩ : ∃ K, K = a + k + 1 := ⟨_, rfl⟩
      rw [← hK] at HL
      have hKl : K ≤ s.length := by omega
      obtain ⟨l, hl0⟩ : ∃ l, l = (s.drop a).take (k + 1) := ⟨_, rfl⟩
      have hex : (⟨s.toArray⟩ : ByteArray).extract a K = ⟨l.toArray⟩ := by rw [hK, Nat.add_assoc, extract_take, hl0]
      have hsl : ∀ W, (Instr.slice 9 (.string ⟨s.toArray⟩) (some (.int .i64 (a : Int))) (some (.int .i64 (K : Int))) none).run Tryd.prog W = .ok (.string ⟨l.toArray⟩) W := fun W => by
        have h := run_slice_string (P := Tryd.prog) W 9 ⟨s.toArray⟩ .i64 .i64 (a : Int) (K : Int) Tryd.underlying9 (by omega) (by omega) (by simp [ByteArray.size]; omega)
        rw [h]
        simp only [Int.toNat_natCast]
        rw [hex]
      have hll : l.length ≤ 512 := by rw [hl0]; simp; omega
      have HNm := hid fun W => rnumber_any l 1024 W (by omega) (by decide)
      have hdk : (s.drop a).drop (k + 1) = s.drop K := by rw [List.drop_drop, hK, Nat.add_assoc]
      have hKp : ((K : Int) == 0) = false := beq_eq_false_iff_ne.2 (by omega)
      have haz : (a : Int) < (s.length : Int) := by omega
      have hy : ((((⟨s.toArray⟩ : ByteArray)[a]'(by simpa [ByteArray.size] using hal)).toNat : Nat) : Int) = 36 := by
        rcases HWay.out with hz | ⟨_, hy⟩
        · omega
        · exact hy
      cases hn : num l 1024 with
      | none =>
        rw [refNum_none hn] at HNm
        have hse : sizeErr (s.drop a) = 32 := by unfold sizeErr; rw [if_neg hnot, h1]; simp only; rw [← hl0, hn]
        have HT : Hid (∀ B W, BulkTold B W s a (.agg #[.slice none 0 0, .int .i64 0, .int .i64 32])) := fun B W => bulkTold_stop (e := 32) (by rw [bulk_bad (by rw [hse]; decide), hse]) rfl
        clear hse hlv h1 hnot hdl hl0 hex hdk HWay hK
        go_enter Tryd.func33, Tryd.ntmps33
        go_wp2_with fail
        refine (HL.out _).mono ?_; rintro e w1 ⟨rfl, rfl⟩
        go_wp2_with fail
        refine (HNm.out _).mono ?_; rintro e w1 ⟨rfl, rfl⟩
        go_wp2
        refine bodyPost_ret (v := .agg #[.slice none 0 0, .int .i64 0, .int .i64 32]) ?_ rfl ?_
        · exact ret_got rfl rfl (heap_alloc_new w _)
        · exact ⟨_, rfl, HT.out _ _, below_alloc w _⟩
      | some n =>
        rw [refNum_some hn] at HNm
        have hse : sizeErr (s.drop a) = 0 := by unfold sizeErr; rw [if_neg hnot, h1]; simp only; rw [← hl0, hn]
        have hbk := bulk_good hse h1 (by rw [← hl0]; exact hn)
        rw [hdk] at hbk
        have hn4 := num_le hn
        obtain ⟨M, hM⟩ : ∃ M, M = K + n := ⟨_, rfl⟩
        obtain ⟨M1, hM1e⟩ : ∃ M1, M1 = M + 1 := ⟨_, rfl⟩
        obtain ⟨M2, hM2e⟩ : ∃ M2, M2 = M + 2 := ⟨_, rfl⟩
        have hew := end_ways hKl hM hM1e
        have hMz : (K : Int) + (n : Int) = (M : Int) := by omega
        have hM1 : (M : Int) + 1 = (M1 : Int) := by omega
        have hM2 : (M : Int) + 2 = (M2 : Int) := by omega
        have hnn : ¬ ((n : Int) < 0) := by omega
        have HBk := hid hbk
        have HM := hid (And.intro hM (And.intro hM1e hM2e))
        clear hse hlv h1 hnot hdl hl0 hex hdk HWay hK hbk hn
        have hMM : M1 = M + 1 ∧ M2 = M + 2 := HM.out.2
        rcases hew with ⟨hq, hev⟩ | ⟨hq, h13, hev⟩ | ⟨hq, h13, hqe, hev⟩ | ⟨hq, h13, h10, hev⟩ | ⟨hq, h13, h10, hev⟩
        · have HT : Hid (∀ B W, BulkTold B W s a (.agg #[.slice none 0 0, .int .i64 0, .int .i64 0])) := fun B W => bulkTold_stop (e := -1) (by rw [HBk.out, if_neg (by rw [hev]; decide), hev]) rfl
          have hqz : ¬ ((M : Int) < (s.length : Int)) := by omega
          have hqz1 : ¬ ((M1 : Int) < (s.length : Int)) := by omega
          have hqz2 : (s.length : Int) < (M2 : Int) := by omega
          clear hev HBk hMM hM hM1e hM2e
          go_enter Tryd.func33, Tryd.ntmps33
          go_wp2_with fail
          refine (HL.out _).mono ?_; rintro e w1 ⟨rfl, rfl⟩
          go_wp2_with fail
          refine (HNm.out _).mono ?_; rintro e w1 ⟨rfl, rfl⟩
          go_wp2
          refine bodyPost_ret (v := .agg #[.slice none 0 0, .int .i64 0, .int .i64 0]) ?_ rfl ?_
          · exact ret_got rfl rfl (heap_alloc_new w _)
          · exact ⟨_, rfl, HT.out _ _, below_alloc w _⟩
        · have HT : Hid (∀ B W, BulkTold B W s a (.agg #[.slice none 0 0, .int .i64 0, .int .i64 34])) := fun B W => bulkTold_stop (e := 34) (by rw [HBk.out, if_neg (by rw [hev]; decide), hev]) rfl
          have hqz : (M : Int) < (s.length : Int) := by omega
          have hMl : M < s.length := by omega
          have hbp := byte_is hMl 13 13 (by decide)
          rw [decide_eq_false h13] at hbp
          have hcp : ((((⟨s.toArray⟩ : ByteArray)[M]'(by simpa [ByteArray.size] using hMl)).toNat : Int) != 13) = true := by simp [bne, hbp]
          clear hev HBk h13 hMM hM hM1e hM2e
          go_enter Tryd.func33, Tryd.ntmps33
          go_wp2_with fail
          refine (HL.out _).mono ?_; rintro e w1 ⟨rfl, rfl⟩
          go_wp2_with fail
          refine (HNm.out _).mono ?_; rintro e w1 ⟨rfl, rfl⟩
          go_wp2
          refine bodyPost_ret (v := .agg #[.slice none 0 0, .int .i64 0, .int .i64 34]) ?_ rfl ?_
          · exact ret_got rfl rfl (heap_alloc_new w _)
          · exact ⟨_, rfl, HT.out _ _, below_alloc w _⟩
        · have HT : Hid (∀ B W, BulkTold B W s a (.agg #[.slice none 0 0, .int .i64 0, .int .i64 0])) := fun B W => bulkTold_stop (e := -1) (by rw [HBk.out, if_neg (by rw [hev]; decide), hev]) rfl
          have hqz : (M : Int) < (s.length : Int) := by omega
          have hqz1 : ¬ ((M1 : Int) < (s.length : Int)) := by omega
          have hqz2 : (s.length : Int) < (M2 : Int) := by omega
          clear hqe
          have hMl : M < s.length := by omega
          have hbp := byte_is hMl 13 13 (by decide)
          rw [decide_eq_true h13] at hbp
          have hcp : ((((⟨s.toArray⟩ : ByteArray)[M]'(by simpa [ByteArray.size] using hMl)).toNat : Int) != 13) = false := by simp [bne, hbp]
          clear hev HBk h13 hMM hM hM1e hM2e
          go_enter Tryd.func33, Tryd.ntmps33
          go_wp2_with fail
          refine (HL.out _).mono ?_; rintro e w1 ⟨rfl, rfl⟩
          go_wp2_with fail
          refine (HNm.out _).mono ?_; rintro e w1 ⟨rfl, rfl⟩
          go_wp2
          refine bodyPost_ret (v := .agg #[.slice none 0 0, .int .i64 0, .int .i64 0]) ?_ rfl ?_
          · exact ret_got rfl rfl (heap_alloc_new w _)
          · exact ⟨_, rfl, HT.out _ _, below_alloc w _⟩
        · have HT : Hid (∀ B W, BulkTold B W s a (.agg #[.slice none 0 0, .int .i64 0, .int .i64 34])) := fun B W => bulkTold_stop (e := 34) (by rw [HBk.out, if_neg (by rw [hev]; decide), hev]) rfl
          have hqz : (M : Int) < (s.length : Int) := by omega
          have hqz1 : (M1 : Int) < (s.length : Int) := by omega
          have hMl : M < s.length := by omega
          have hbp := byte_is hMl 13 13 (by decide)
          rw [decide_eq_true h13] at hbp
          have hcp : ((((⟨s.toArray⟩ : ByteArray)[M]'(by simpa [ByteArray.size] using hMl)).toNat : Int) != 13) = false := by simp [bne, hbp]
          have hM1l : M1 < s.length := by omega
          have hbr := byte_is hM1l 10 10 (by decide)
          rw [decide_eq_false h10] at hbr
          have hcr : ((((⟨s.toArray⟩ : ByteArray)[M1]'(by simpa [ByteArray.size] using hM1l)).toNat : Int) != 10) = true := by simp [bne, hbr]
          clear hev HBk h13 h10 hMM hM hM1e hM2e
          go_enter Tryd.func33, Tryd.ntmps33
          go_wp2_with fail
          refine (HL.out _).mono ?_; rintro e w1 ⟨rfl, rfl⟩
          go_wp2_with fail
          refine (HNm.out _).mono ?_; rintro e w1 ⟨rfl, rfl⟩
          go_wp2
          refine bodyPost_ret (v := .agg #[.slice none 0 0, .int .i64 0, .int .i64 34]) ?_ rfl ?_
          · exact ret_got rfl rfl (heap_alloc_new w _)
          · exact ⟨_, rfl, HT.out _ _, below_alloc w _⟩
        · have hqz : (M : Int) < (s.length : Int) := by omega
          have hqz1 : (M1 : Int) < (s.length : Int) := by omega
          have hqz2 : ¬ ((s.length : Int) < (M2 : Int)) := by omega
          have hMl : M < s.length := by omega
          have hbp := byte_is hMl 13 13 (by decide)
          rw [decide_eq_true h13] at hbp
          have hcp : ((((⟨s.toArray⟩ : ByteArray)[M]'(by simpa [ByteArray.size] using hMl)).toNat : Int) != 13) = false := by simp [bne, hbp]
          have hM1l : M1 < s.length := by omega
          have hbr := byte_is hM1l 10 10 (by decide)
          rw [decide_eq_true h10] at hbr
          have hcr : ((((⟨s.toArray⟩ : ByteArray)[M1]'(by simpa [ByteArray.size] using hM1l)).toNat : Int) != 10) = false := by simp [bne, hbr]
          have HG : Hid (bulk (s.drop a) = .got [(s.drop K).take n] ((s.drop K).drop (n + 2))) := by rw [HBk.out, if_pos hev]; rfl
          obtain ⟨x, hx⟩ : ∃ x, x = (s.drop K).take n := ⟨_, rfl⟩
          have hex2 : (⟨s.toArray⟩ : ByteArray).extract K M = ⟨x.toArray⟩ := by rw [HM.out.1, extract_take, hx]
          have hsl2 : ∀ W, (Instr.slice 9 (.string ⟨s.toArray⟩) (some (.int .i64 (K : Int))) (some (.int .i64 (M : Int))) none).run Tryd.prog W = .ok (.string ⟨x.toArray⟩) W := fun W => by
            have h := run_slice_string (P := Tryd.prog) W 9 ⟨s.toArray⟩ .i64 .i64 (K : Int) (M : Int) Tryd.underlying9 (by omega) (by have := HM.out; omega) (by simp [ByteArray.size]; omega)
            rw [h]
            simp only [Int.toNat_natCast]
            rw [hex2]
          rw [← hx] at HG
          have hr : s.length - ((s.drop K).drop (n + 2)).length = M2 := by have := HM.out; simp; omega
          have HT : Hid (∀ B W A, B ≤ A → W.heap[A]? = some (.cells #[.string ⟨x.toArray⟩] 9 (0, 0)) → BulkTold B W s a (.agg #[.slice (some ⟨A, 0, none⟩) 1 1, .int .i64 (M2 : Int), .int .i64 0])) := fun B W A h1 h2 => by
            unfold BulkTold
            rw [HG.out]
            exact ⟨A, x, rfl, by rw [hr], h1, h2⟩
          have HW1 := hid (HW0.out.alloc (by simp) (.cells #[.string ⟨x.toArray⟩] 9))
          clear hev HBk h13 h10 hex2 hx hr HG hMM hM hM1e hM2e
          go_enter Tryd.func33, Tryd.ntmps33
          go_wp2_with fail
          refine (HL.out _).mono ?_; rintro e w1 ⟨rfl, rfl⟩
          go_wp2_with fail
          refine (HNm.out _).mono ?_; rintro e w1 ⟨rfl, rfl⟩
          go_wp2
          refine bodyPost_ret (v := .agg #[.slice (some ⟨w.heap.size + 1, 0, none⟩) 1 1, .int .i64 (M2 : Int), .int .i64 0]) ?_ rfl ?_
          · exact ret_got rfl rfl ((heap_alloc_old _ _ (by simp)).trans (heap_alloc_new w _))
          · exact ⟨_, rfl, HT.out _ _ _ (by omega) (second_alloc w _ _), (below_alloc w _).alloc (by simp) _⟩

end Go.Proofs.YtjcegiponjpjiaaDoor
