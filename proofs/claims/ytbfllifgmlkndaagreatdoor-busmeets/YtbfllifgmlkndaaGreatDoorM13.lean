/- Parse. -/
import Derived.Test.YtbfllifgmlkndaaGreatDoorM12
namespace Go.Proofs.YtbfllifgmlkndaaGreatDoor
open Go.RowKit
open Slot

/-- what Parse tells -/
def parseVal (s : List UInt8) : Value := match parseAll s with
  | some l => .tuple #[.agg (cellsOf (ofList l)), .int .i64 0]
  | none => .tuple #[.agg (cellsOf (fun _ => false)), .int .i64 20]
theorem parseVal_ok {s : List UInt8} {l : List (Nat × Nat)} (h : parseAll s = some l) : parseVal s = .tuple #[.agg (cellsOf (ofList l)), .int .i64 0] := by unfold parseVal; rw [h]
theorem parseVal_bad {s : List UInt8} (h : parseAll s = none) : parseVal s = .tuple #[.agg (cellsOf (fun _ => false)), .int .i64 20] := by unfold parseVal; rw [h]
/-- how far a text has been read: s is left, if more is to come -/
def Left (P : Option (List (Nat × Nat))) (s : List UInt8) (m : Nat) (acc : List (Nat × Nat)) (more : Bool) : Prop :=
  if more then ∃ fuel, s.length < fuel ∧ P = (parse fuel s m).map (acc ++ ·) else P = some acc
theorem left_first (s : List UInt8) : Left (parseAll s) s 0 [] (!s.isEmpty) := by
  unfold Left parseAll
  cases s with
  | nil => simp
  | cons x s => exact ⟨_, Nat.lt_succ_self _, by simp⟩
theorem left_bad {P : Option (List (Nat × Nat))} {s : List UInt8} {m : Nat} {acc : List (Nat × Nat)} (h : Left P s m acc true) (hb : readRange (cut 32 s).1 = none ∨ ∃ p, readRange (cut 32 s).1 = some p ∧ p.1 < m) : P = none := by
  obtain ⟨fuel, hf, hP⟩ := h
  obtain ⟨fuel, rfl⟩ : ∃ k, fuel = k + 1 := ⟨fuel - 1, by omega⟩
  rw [hP, parse_step]
  rcases hb with hb | ⟨p, hb, hlt⟩
  · rw [hb]; rfl
  · rw [hb]; simp [hlt]
theorem left_next {P : Option (List (Nat × Nat))} {s : List UInt8} {m : Nat} {acc : List (Nat × Nat)} {p : Nat × Nat} (h : Left P s m acc true) (hr : readRange (cut 32 s).1 = some p) (hm : m ≤ p.1) : Left P (cut 32 s).2.1 (p.2 + 2) (acc ++ [p]) (cut 32 s).2.2 := by
  obtain ⟨fuel, hf, hP⟩ := h
  obtain ⟨fuel, rfl⟩ : ∃ k, fuel = k + 1 := ⟨fuel - 1, by omega⟩
  rw [parse_step, hr] at hP
  simp only [if_neg (Nat.not_lt.2 hm)] at hP
  cases hc : (cut 32 s).2.2
  · rw [hc] at hP
    simp at hP
    exact hP
  · rw [hc] at hP
    have hl := cut_less hc
    refine ⟨fuel, by omega, ?_⟩
    rw [hP]
    simp [Option.map_map, Function.comp_def]

def strLen : Value → Nat | .string b => b.size | _ => 0
def boolOf : Value → Nat | .bool true => 1 | _ => 0
set_option maxHeartbeats 2000000 in
set_option maxRecDepth 100000 in
/-- Parse -/
theorem parse_any (s : List UInt8) (w : World) (hE : Env w) (hl : s.length ≤ 281474976710656) :
    Calls Tryz.prog 82 #[.string ⟨s.toArray⟩] w fun e w' => e = .returned (parseVal s) ∧ Below w.heap.size w w' := by
  have hz := zeroBits
  have HR0 : Hid (Box ((w.alloc (.cells (cellsOf (fun _ => false)) 24)).alloc (.cells (cellsOf (fun _ => false)) 24)) w.heap.size (fun _ => false)) := heap_alloc2_old w _ _
  have HB0 : Hid (Box ((w.alloc (.cells (cellsOf (fun _ => false)) 24)).alloc (.cells (cellsOf (fun _ => false)) 24)) (w.heap.size + 1) (fun _ => false)) := heap_alloc2_new w _ _
  have HW0 : Hid (Below w.heap.size w ((w.alloc (.cells (cellsOf (fun _ => false)) 24)).alloc (.cells (cellsOf (fun _ => false)) 24))) := (below_alloc w _).alloc (by simp) _
  have HRR : Hid (∀ l, l.length ≤ 281474976710656 → ∀ w', Below w.heap.size w w' → Calls Tryz.prog 98 #[.string ⟨l.toArray⟩] w' fun e w'' => (∃ f t : Int, e = .returned (.tuple #[.agg #[.int .i64 f, .int .i64 t], .bool (Slot.readRange l).isSome]) ∧ ∀ p, Slot.readRange l = some p → f = p.1 ∧ t = p.2) ∧ Below w'.heap.size w' w'') :=
    fun l hl w' hb => readRange_any l w' (hE.below hb hE.room) hl
  have HL0 := hid (left_first s)
  have HP := hid (fun l => parseVal_ok (s := s) (l := l))
  have HN := hid (parseVal_bad (s := s))
  generalize parseVal s = V at HP HN ⊢
  generalize parseAll s = P at HL0 HP HN
  clear hE
  go_enter Tryz.func82, Tryz.ntmps82
  go_wp2
  go_loopw [0, 5, 6] (fun v0 v5 v6 W => ∃ (s1 : List UInt8) (m : Nat) (acc : List (Nat × Nat)) (mo : Bool), v0 = .string ⟨s1.toArray⟩ ∧ v5 = .int .i64 m ∧ v6 = .bool mo ∧ s1.length ≤ 281474976710656 ∧ m ≤ 16386 ∧ Hid (Left P s1 m acc mo) ∧ Hid (Box W w.heap.size (fun _ => false)) ∧ Hid (Box W (w.heap.size + 1) (ofList acc)) ∧ Hid (Below w.heap.size w W)) (fun v0 _ v6 _ => 2 * strLen v0 + boolOf v6)
  case atStart => exact ⟨s, 0, [], !s.isEmpty, rfl, rfl, rfl, hl, by omega, HL0.out, HR0.out, HB0.out, HW0.out⟩
  case round =>
    obtain ⟨s1, m, acc, mo, rfl, rfl, rfl, hs1, hm, HL, HR, HB, HW⟩ := hrel
    cases mo
    · have hP : P = some acc := HL.out
      have HV := hid (HP.out acc hP)
      go_wp2_with (first | (refine wpList_load_row rfl 24 _ rfl (w.heap.size + 1) rfl 24 _ (0, 0) _ HB.out Tryz.underlying24 rfl (infoBits _) ?_) | (refine wpList_store_row rfl 24 _ _ rfl w.heap.size _ rfl rfl 24 _ HR.out (infoBits _) (sizes _ _) (oneCells _) ?_))
      exact bodyPost_ret (v := .tuple #[.agg (cellsOf (ofList acc)), .int .i64 0]) (ret_box2 rfl rfl rfl (box_size HR.out)) rfl ⟨by rw [HV.out], below_setRow HW.out (Nat.le_refl _) _⟩
    · have HC := hid fun w => cut_any s1 32 w (by omega)
      have hcs := cut_short 32 s1
      have HLB := hid (left_bad HL.out)
      have HLN := hid (fun p => left_next (p := p) HL.out)
      have HCL := hid (cut_less (c := 32) (l := s1))
      have HMiss : Hid ((cut 32 s1).2.2 = false → (cut 32 s1).2.1 = []) := fun h => by
        rcases cut_cases 32 s1 with ⟨p, r, rfl, hp⟩ | hp
        · rw [cut_hit hp] at h; cases h
        · rw [cut_miss hp]
      generalize cut 32 s1 = C at HC hcs HLB HLN HCL HMiss
      obtain ⟨a, r, mo⟩ := C
      simp only at HC hcs HLB HLN HCL HMiss
      have ha : a.length ≤ 281474976710656 := by omega
      go_wp2_with fail
      refine (HC.out _).mono ?_; rintro e w' ⟨rfl, n, rfl⟩
      go_wp2_with fail
      have HWn := hid (Below.drewN HW.out n)
      refine (HRR.out a ha _ HWn.out).mono ?_
      rintro e w1 ⟨⟨f, t, rfl, hft⟩, hb1⟩
      have HR1 := hid (Box.below (n := wr.heap.size) (w := wr.drewN n) HR.out hb1 HR.out.lt)
      have HB1 := hid (Box.below (n := wr.heap.size) (w := wr.drewN n) HB.out hb1 HB.out.lt)
      have HW1 := hid (HWn.out.trans (hb1.mono (by have := HR.out.lt; show _ ≤ wr.heap.size; omega)))
      have hw1 : w.heap.size + 1 < w1.heap.size := HB1.out.lt
      clear hb1
      have HRa : Hid (∀ o, Box (w1.alloc o) w.heap.size (fun _ => false)) := fun o => HR1.out.below (below_alloc w1 o) HR1.out.lt
      have HBa : Hid (∀ o, Box (w1.alloc o) (w.heap.size + 1) (ofList acc)) := fun o => HB1.out.below (below_alloc w1 o) HB1.out.lt
      have HWa : Hid (∀ o, Below w.heap.size w (w1.alloc o)) := fun o => HW1.out.alloc (by omega) o
      have fin : Hid (∀ o, Box ((w1.alloc o).setRow w.heap.size (cellsOf fun _ => false)) w.heap.size (fun _ => false) ∧ Below w.heap.size w ((w1.alloc o).setRow w.heap.size (cellsOf fun _ => false))) := fun o => ⟨box_size (HRa.out o), below_setRow (HWa.out o) (Nat.le_refl _) _⟩
      cases hr : Slot.readRange a with
      | none =>
        have HV := hid (HN.out (HLB.out (.inl hr)))
        clear hft hr
        go_wp2_with (refine wpList_store_row rfl 24 _ _ rfl w.heap.size _ rfl rfl 24 _ (HRa.out (.cells #[.int .i64 f, .int .i64 t] 116)) (infoBits _) (sizes _ _) (oneCells _) ?_)
        exact bodyPost_ret (v := .tuple #[.agg (cellsOf fun _ => false), .int .i64 20]) (ret_box2 rfl rfl rfl (fin.out _).1) rfl ⟨by rw [HV.out], (fin.out _).2⟩
      | some p =>
        obtain ⟨rfl, rfl⟩ := hft p hr
        obtain ⟨p1, p2⟩ := p
        have hp := readRange_lt hr
        simp only at hp
        unfold top at hp
        by_cases hlt : p1 < m
        · have HV := hid (HN.out (HLB.out (.inr ⟨_, hr, hlt⟩)))
          clear hft hr
          go_wp2_with (refine wpList_store_row rfl 24 _ _ rfl w.heap.size _ rfl rfl 24 _ (HRa.out (.cells #[.int .i64 p1, .int .i64 p2] 116)) (infoBits _) (sizes _ _) (oneCells _) ?_)
          exact bodyPost_ret (v := .tuple #[.agg (cellsOf fun _ => false), .int .i64 20]) (ret_box2 rfl rfl rfl (fin.out _).1) rfl ⟨by rw [HV.out], (fin.out _).2⟩
        · have HN1 := hid (HLN.out (p1, p2) hr (by simp only; omega))
          clear hft hr
          have HS : Hid (∀ W, Box W (w.heap.size + 1) (ofList acc) → Calls Tryz.prog 90 #[.pointer (some ⟨w.heap.size + 1, 0, none⟩), .agg #[.int .i64 p1, .int .i64 p2], .bool true] W fun e w' => e = .returned (.tuple #[]) ∧ Box w' (w.heap.size + 1) (put (ofList acc) p1 p2 true) ∧ Only (w.heap.size + 1) W w') :=
            fun W hW => set_any _ p1 p2 true _ W hW hp.1 hp.2
          go_wp2_with fail
          refine (HS.out _ (HBa.out _)).mono ?_
          rintro e w2 ⟨rfl, hb2, ho2⟩
          have hr2 : w2.heap[w1.heap.size]? = some (.cells #[.int .i64 p1, .int .i64 p2] 116 (0, 0)) := by
            rw [ho2.block w1.heap.size (by simp) (by omega)]; exact heap_alloc_new w1 _
          have c1 : w2.cell? ⟨w1.heap.size, 1, none⟩ = some (.int .i64 p2) := cell_of_row w2 _ 1 _ _ _ hr2
          rw [← ofList_snoc] at hb2
          have HB2 := hid hb2
          have HR2 := hid (Box.only (b := w.heap.size) (c := w.heap.size + 1) (HRa.out _) ho2 (by omega))
          have HW2 := hid ((HWa.out _).trans (Only.below (b := w.heap.size + 1) (n := w.heap.size) ho2 (by omega) (by simp; omega)))
          clear hb2 ho2 hr2
          go_wp2
          go_roundw
          case rel => exact ⟨r, p2 + 2, acc ++ [(p1, p2)], mo, rfl, by go_num, rfl, by omega, by omega, HN1.out, HR2.out, HB2.out, HW2.out⟩
          case measure =>
            cases mo
            · have := HMiss.out rfl
              subst this
              simp [strLen, boolOf, ByteArray.size]
            · have := HCL.out rfl
              simp [strLen, boolOf, ByteArray.size]; omega

end Go.Proofs.YtbfllifgmlkndaaGreatDoor
