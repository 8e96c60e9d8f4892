/- The laws RouteTexts, RouteReads: how a client is told, and what a text is read as. -/
import Derived.Test.YtpmpndfinghlkaaDoorLawRt1
import Derived.Test.YtpmpndfinghlkaaDoorRtRRead
namespace Go.Proofs.YtpmpndfinghlkaaDoor
open Go.RowKit

/-- what is told of a reading, as a decision -/
def ledD : Option DecV → DecV
  | some d => d
  | none => ⟨0, 0, 0, 0⟩
theorem ledC_is (o : Option DecV) : ledC o = decCells (ledD o) := by cases o <;> rfl
theorem eq_led_same (o : Option DecV) (w : World) : (Op.equalIn 10000 28 (.agg (ledC o)) (.agg (ledC o))).run Tryd.prog w = .ok true w := by rw [ledC_is]; exact eq_dec_same _ w
theorem infoLed (o : Option DecV) : (Tryd.prog.info? 28).map (·.size) = some (ledC o).size := by rw [ledC_size]; show _ = some 4; kernel_rfl
theorem read_led (l : List UInt8) (w : World) (hE : Env w) (hl : l.length ≤ 281474976710656) : Calls Tryd.prog 13 #[.string ⟨l.toArray⟩] w fun e w' => e = .returned (.tuple #[.agg (ledC (readV l)), .bool (ledB (readV l))]) ∧ Below w.heap.size w w' := by
  refine (read_any l w hE hl).mono ?_
  rintro e w' ⟨rfl, hb⟩
  exact ⟨by rw [ledT_parts], hb⟩
theorem rread_led (l : List UInt8) (w : World) (hl : l.length ≤ 10000000) : Calls Tryd.prog 14 #[.string ⟨l.toArray⟩] w fun e w' => e = .returned (.tuple #[.agg (ledC (readV l)), .bool (ledB (readV l))]) ∧ Below w.heap.size w w' := by
  refine (rread_any l w hl).mono ?_
  rintro e w' ⟨rfl, hb⟩
  exact ⟨by rw [ledT_parts], hb⟩
/-- decisions in boxes, of the call's own -/
structure Two (w W : World) (b : Nat) (C : Array Value) (z : Nat) (D : Array Value) : Prop where
  one : W.heap[b]? = some (.cells C 28 (0, 0))
  two : W.heap[z]? = some (.cells D 28 (0, 0))
  bel : Below w.heap.size w W
theorem Two.go {w W W' : World} {b z : Nat} {C D : Array Value} (h : Two w W b C z D) (hb : Below W.heap.size W W') : Two w W' b C z D :=
  ⟨(hb.block _ (Array.getElem?_eq_some_iff.1 h.one).1).trans h.one, (hb.block _ (Array.getElem?_eq_some_iff.1 h.two).1).trans h.two, h.bel.trans (hb.mono h.bel.size)⟩
/-- a new box with a decision -/
theorem box_new {w w2 : World} (D : Array Value) (hB : Below w.heap.size w w2) :
    (w2.alloc (.cells #[.int .i64 0, .int .i64 0, .int .i64 0, .int .i64 0] 28)).heap[w2.heap.size]? = some (.cells #[.int .i64 0, .int .i64 0, .int .i64 0, .int .i64 0] 28 (0, 0)) ∧
    ((w2.alloc (.cells #[.int .i64 0, .int .i64 0, .int .i64 0, .int .i64 0] 28)).setRow w2.heap.size D).heap[w2.heap.size]? = some (.cells D 28 (0, 0)) ∧
    Below w.heap.size w ((w2.alloc (.cells #[.int .i64 0, .int .i64 0, .int .i64 0, .int .i64 0] 28)).setRow w2.heap.size D) ∧
    (∀ (k : Nat) (o : Obj), w2.heap[k]? = some o → ((w2.alloc (.cells #[.int .i64 0, .int .i64 0, .int .i64 0, .int .i64 0] 28)).setRow w2.heap.size D).heap[k]? = some o) := by
  have h1 := heap_alloc_new w2 (.cells #[.int .i64 0, .int .i64 0, .int .i64 0, .int .i64 0] 28)
  refine ⟨h1, setRow_heap _ _ _ _ _ _ h1, below_setRow (hB.alloc hB.size _) hB.size _, fun k o hk => ?_⟩
  have hlt := (Array.getElem?_eq_some_iff.1 hk).1
  exact (setRow_other _ _ _ _ (by omega)).trans ((heap_alloc_old _ _ hlt).trans hk)
theorem readV_back (l : List UInt8) : readV l = none ∨ textV (ledD (readV l)) = l := by
  cases e : readV l with
  | none => exact .inl rfl
  | some d => exact .inr (readV_text e)
theorem readV_in {l : List UInt8} {d : DecV} (h : readV l = some d) : DecIn d := by
  have zero : In64 0 := ⟨by decide, by decide⟩
  unfold readV at h
  by_cases h4 : l = wAgain
  · rw [if_pos h4] at h; injection h with h; subst h; exact ⟨⟨by show -9223372036854775808 ≤ (4 : Int); decide, by show (4 : Int) ≤ _; decide⟩, zero, zero, zero⟩
  rw [if_neg h4] at h
  by_cases h5 : l = wCross
  · rw [if_pos h5] at h; injection h with h; subst h; exact ⟨⟨by show -9223372036854775808 ≤ (5 : Int); decide, by show (5 : Int) ≤ _; decide⟩, zero, zero, zero⟩
  rw [if_neg h5] at h
  by_cases h6 : l = wDown
  · rw [if_pos h6] at h; injection h with h; subst h; exact ⟨⟨by show -9223372036854775808 ≤ (6 : Int); decide, by show (6 : Int) ≤ _; decide⟩, zero, zero, zero⟩
  rw [if_neg h6] at h
  have led : ∀ (k : Int) (a b c : List UInt8), In64 k → ledV k a b c = some d → DecIn d := fun k a b c hk hd => by
    unfold ledV at hd
    cases e1 : numO a 16383 with
    | none => simp only [e1] at hd; cases hd
    | some x =>
      cases e2 : numO b 63 with
      | none => simp only [e1, e2] at hd; cases hd
      | some y =>
        cases e3 : numO c 9223372036854775807 with
        | none => simp only [e1, e2, e3] at hd; cases hd
        | some z =>
          simp only [e1, e2, e3, Option.some.injEq] at hd
          subst hd
          have p1 := numO_some e1
          have p2 := numO_some e2
          have p3 := numO_some e3
          exact ⟨hk, ⟨by show _ ≤ x; omega, by show x ≤ _; omega⟩, ⟨by show _ ≤ y; omega, by show y ≤ _; omega⟩, ⟨by show _ ≤ z; omega, by show z ≤ _; omega⟩⟩
  split at h
  · split at h
    · exact led 2 _ _ _ ⟨by decide, by decide⟩ h
    · cases h
  · split at h
    · exact led 3 _ _ _ ⟨by decide, by decide⟩ h
    · cases h
  · cases h
set_option maxHeartbeats 4000000 in
set_option maxRecDepth 100000 in
theorem reads_any (l : List UInt8) (w : World) (hE : Env w) (hl : l.length ≤ 10000000) : Calls Tryd.prog 5 #[.string ⟨l.toArray⟩] w fun e w' => e = .returned (.bool true) ∧ Below w.heap.size w w' := by
  have HR := hid fun W h => read_led l W h (by omega)
  have HS := hid fun W => rread_led l W hl
  have HE := hid fun (W : World) (hb : Below w.heap.size w W) => hE.below hb hE.room
  have HT : Hid (ledB (readV l) = true → ∀ W, Env W → Calls Tryd.prog 12 #[.agg (ledC (readV l))] W fun e w' => e = .returned (.string ⟨l.toArray⟩) ∧ Below W.heap.size W w') := fun hb W hW => by
    cases e : readV l with
    | none => rw [e] at hb; cases hb
    | some d =>
      have := text_any d W hW (readV_in e)
      rwa [readV_text e] at this
  have heq := eq_led_same (readV l)
  have hi := infoLed (readV l)
  have hone := ledC_one (readV l)
  have hsz : (#[.int .i64 0, .int .i64 0, .int .i64 0, .int .i64 0] : Array Value).size = (ledC (readV l)).size := by rw [ledC_size]; rfl
  generalize ledC (readV l) = C at *
  generalize ledB (readV l) = B at *
  have HZz := hid hsz
  clear hl hsz
  go_enter Tryd.func5, Tryd.ntmps5
  go_wp2_with fail
  refine (HR.out w hE).mono ?_; rintro e w2 ⟨rfl, hb2⟩
  obtain ⟨z1, z2, z3, -⟩ := box_new C hb2
  have Z1 := hid z1
  have Z2 := hid z2
  have Z3 := hid z3
  clear z1 z2 z3 hb2 hE HR
  go_upto_region 2 with (refine wpList_store_row rfl 28 _ _ rfl w2.heap.size C rfl rfl 28 _ Z1.out hi HZz.out hone ?_)
  clear Z1
  generalize (w2.alloc (.cells #[.int .i64 0, .int .i64 0, .int .i64 0, .int .i64 0] 28)).setRow w2.heap.size C = w3 at *
  generalize w2.heap.size = b at *
  go_wp2_with fail
  refine (HS.out w3).mono ?_; rintro e w4 ⟨rfl, hb4⟩
  obtain ⟨y1, y2, y3, y4⟩ := box_new C (Z3.out.trans (hb4.mono Z3.out.size))
  have Y1 := hid y1
  have HQ : Hid (Two w ((w4.alloc (.cells #[.int .i64 0, .int .i64 0, .int .i64 0, .int .i64 0] 28)).setRow w4.heap.size C) b C w4.heap.size C) :=
    ⟨y4 _ _ ((hb4.block _ (Array.getElem?_eq_some_iff.1 Z2.out).1).trans Z2.out), y2, y3⟩
  clear y1 y2 y3 y4 hb4 HS Z2 Z3
  go_upto_region 3 with (refine wpList_store_row rfl 28 _ _ rfl w4.heap.size C rfl rfl 28 _ Y1.out hi HZz.out hone ?_)
  clear Y1
  generalize (w4.alloc (.cells #[.int .i64 0, .int .i64 0, .int .i64 0, .int .i64 0] 28)).setRow w4.heap.size C = w5 at *
  generalize w4.heap.size = z at *
  have HA := hid (alive_any w5 (HE.out _ HQ.out.bel))
  go_wp2_with fail
  refine HA.out.mono ?_; rintro e w6 ⟨rfl, hb6⟩
  have HQ6 := hid (HQ.out.go hb6)
  clear hb6 HA HQ
  have HT6 := hid fun h => HT.out h w6 (HE.out _ HQ6.out.bel)
  clear HT HE
  have hll : (l == l) = true := by simp
  cases B
  · go_wp2_with (first | (refine wpList_load_want rfl 28 _ rfl b rfl 28 _ (0, 0) _ HQ6.out.one Tryd.underlying28 rfl hi ?_) | (refine wpList_load_want rfl 28 _ rfl z rfl 28 _ (0, 0) _ HQ6.out.two Tryd.underlying28 rfl hi ?_))
    go_ret
    exact ⟨rfl, HQ6.out.bel⟩
  · have HT7 := hid (HT6.out rfl)
    clear HT6
    go_wp2_with (first | (refine wpList_load_want rfl 28 _ rfl b rfl 28 _ (0, 0) _ HQ6.out.one Tryd.underlying28 rfl hi ?_) | (refine wpList_load_want rfl 28 _ rfl z rfl 28 _ (0, 0) _ HQ6.out.two Tryd.underlying28 rfl hi ?_))
    refine HT7.out.mono ?_; rintro e w7 ⟨rfl, hb7⟩
    have HB7 := hid (HQ6.out.bel.trans (hb7.mono HQ6.out.bel.size))
    clear hb7
    go_wp2
    go_ret
    exact ⟨rfl, HB7.out⟩

end Go.Proofs.YtpmpndfinghlkaaDoor
