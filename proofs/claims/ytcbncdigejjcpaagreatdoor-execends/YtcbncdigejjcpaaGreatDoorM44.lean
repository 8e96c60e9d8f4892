/- XA. -/
import Derived.Test.YtcbncdigejjcpaaGreatDoorM43
namespace Go.Proofs.YtcbncdigejjcpaaGreatDoor.Ex
open Re (Rep)
open Go.RowKit

/-- a function answers a command: nm its name, t the arguments behind it -/
abbrev Ans (F : Nat) (nm : Nm) (t : Row) (M : Int → Int → List EP → List EP × Rep) : Prop := ∀ (B : Nat) (w : World) (b : Nat) (O A : Nat → Prop) (L : List EP) (room now : Int), Sp B w b O A L room now → ∀ (p : Option Addr) (c : Nat), Rd w p c t → (∀ x ∈ t, x.length ≤ 140737488351232) → t.length ≤ 63 → (t ≠ [] → ∀ q, p = some q → ¬ O q.block) →
  Calls Tryz.prog F #[cv b nm p t.length c] w fun e w' => ∃ q d, e = .returned (rval (M room now L).2 q d) ∧ Hid (Post B (fun k => w.heap.size ≤ k) w b O A room now (M room now L).1 (M room now L).2 w' (rval (M room now L).2 q d))
theorem tab_of {B : Nat} {w : World} {b : Nat} {O A : Nat → Prop} {L : List EP} {room now : Int} (h : Sp B w b O A L room now) : Tab w := by
  obtain ⟨d, mb, Od, D, f, mem, soon, h1, h2, h3⟩ := h
  exact h1.tab
theorem cur_came {B : Nat} {w : World} {b : Nat} {O A : Nat → Prop} {L : List EP} {room now : Int} (h : Sp B w b O A L room now) (k : Nm) (K : Int) (hK : In64 K) : Came (curV L k K) := by
  unfold curV valOf isIn
  cases hg : getL k L with
  | none => exact (⟨Nat.zero_le _, Nat.zero_le _, Nat.zero_le _, (fun x hx => by cases hx), (fun x hx => by cases hx), (fun x hx => by cases hx), hK, (by show In64 0; decide), (by show In64 0; decide)⟩ : Came ⟨K, [], [], [], 0, 0⟩)
  | some x => exact rt_came (h.fine.good x (List.mem_of_find?_eq_some hg)).2.1
/-- a value of the kind that is asked for -/
theorem cur_right {B : Nat} {w : World} {b : Nat} {O A : Nat → Prop} {L : List EP} {room now : Int} (h : Sp B w b O A L room now) (k : Nm) (K : Int) (ho : otherK L k K = false) : (curV L k K).kind = K ∧ ((K ≠ 2 → (curV L k K).pairs = []) ∧ (K ≠ 3 → K ≠ 4 → (curV L k K).items = []) ∧ (K ≠ 1 → (curV L k K).text = []) ∧ (K ≠ 5 → (curV L k K).px = 0 ∧ (curV L k K).py = 0)) ∧ (curV L k K).items.length ≤ 256 ∧ (curV L k K).pairs.length ≤ 256 ∧ (curV L k K).text.length ≤ 4096 ∧ Ris ((curV L k K).pairs.map (·.1)) ∧ (K = 4 → Ris (curV L k K).items) := by
  unfold otherK at ho
  unfold curV valOf isIn at *
  cases hg : getL k L with
  | none => exact ⟨rfl, ⟨fun _ => rfl, fun _ _ => rfl, fun _ => rfl, fun _ => ⟨rfl, rfl⟩⟩, Nat.zero_le _, Nat.zero_le _, Nat.zero_le _, List.Pairwise.nil, fun _ => List.Pairwise.nil⟩
  | some x =>
    rw [hg] at ho
    simp only [Option.isSome_some, Bool.true_and, bne_eq_false_iff_eq, if_true] at ho ⊢
    have hR := (h.fine.good x (List.mem_of_find?_eq_some hg)).2.1
    subst ho
    refine ⟨rfl, ⟨hR.pairs, hR.items, hR.text, hR.point⟩, ?_, ?_, ?_, ?_, ?_⟩
    · by_cases h3 : x.2.1.kind = 3
      · exact (hR.k3 h3).2.2
      · by_cases h4 : x.2.1.kind = 4
        · exact (hR.k4 h4).1.2.2
        · rw [hR.items h3 h4]; decide
    · by_cases h2 : x.2.1.kind = 2
      · have := (hR.k2 h2).1.2.2; rwa [List.length_map] at this
      · rw [hR.pairs h2]; decide
    · by_cases h1 : x.2.1.kind = 1
      · exact hR.k1 h1
      · rw [hR.text h1]; decide
    · by_cases h2 : x.2.1.kind = 2
      · exact (hR.k2 h2).2.1
      · rw [hR.pairs h2]; exact List.Pairwise.nil
    · intro h4
      exact (hR.k4 h4).2
theorem fit_fault {s : Nm} (h : s.length ≤ 140737488351232) : (fault s).list = [] ∧ Re.Fit (fault s) := ⟨rfl, fit_mk (by decide) (by decide) h⟩
theorem fit_sim {s : Nm} (h : s.length ≤ 140737488351232) : (simR s).list = [] ∧ Re.Fit (simR s) := ⟨rfl, fit_mk (by decide) (by decide) h⟩
theorem len_bulk {l : Row} {q : Option Addr} {c : Nat} : rval (bulksR l) q c = .agg #[.int .i64 6, .int .i64 0, .string ⟨#[]⟩, .slice q l.length c] := by
  show Value.agg #[.int .i64 6, .int .i64 0, txt [], .slice q (l.map bulkR).length c] = _
  rw [List.length_map]
/-- List -/
theorem list_any (p : Option Addr) (l : Row) (cap : Nat) (w : World) (hA : Strs w p l) (hl : l.length ≤ 1000000) (ht : ∀ t ∈ l, t.length ≤ 140737488351232) :
    Calls Tryz.prog 80 #[.slice p l.length cap] w fun e w' => ∃ q d, e = .returned (rval (bulksR l) q d) ∧ Hid (Re.Rp (fun k => w.heap.size ≤ k) w' 2 (rval (bulksR l) q d) (bulksR l) ∧ Below w.heap.size w w') := by
  refine (Re.list_any p l cap w hA (by omega) (fun t h => Nat.le_trans (ht t h) (by decide))).mono ?_
  rintro e w' ⟨q, c, rfl, hh⟩
  refine ⟨q, c, by rw [len_bulk], ?_⟩
  rw [len_bulk]
  exact hh.out
abbrev cGET : Nm := [71, 69, 84]
abbrev cSET : Nm := [83, 69, 84]
abbrev cEXISTS : Nm := [69, 88, 73, 83, 84, 83]
abbrev cSTRLEN : Nm := [83, 84, 82, 76, 69, 78]
abbrev cLPUSH : Nm := [76, 80, 85, 83, 72]
abbrev cRPUSH : Nm := [82, 80, 85, 83, 72]
abbrev cLPOP : Nm := [76, 80, 79, 80]
abbrev cLRANGE : Nm := [76, 82, 65, 78, 71, 69]
abbrev cSDIFF : Nm := [83, 68, 73, 70, 70]
abbrev cEXPIRE : Nm := [69, 88, 80, 73, 82, 69]
abbrev cTTL : Nm := [84, 84, 76]
end Go.Proofs.YtcbncdigejjcpaaGreatDoor.Ex
