/- VpH. -/
import Derived.Test.YtbfllifgmlkndaaGreatDoorM31
namespace Go.Proofs.YtbfllifgmlkndaaGreatDoor
open Go.RowKit Go.Shelf
open Slot
attribute [local go_sem] Oper.semAt_some

theorem VB.congr {w : World} {b : Nat} {v v' : Vw} (h : VB w b v) (h1 : v'.self = v.self) (h2 : ∀ s, s < 16384 → v'.own s = v.own s) (h3 : ∀ n, n < 64 → v'.ep n = v.ep n) (h4 : v'.cur = v.cur) : VB w b v' := by
  obtain ⟨C, c1, c2, c3, c4, c5, c6⟩ := h
  exact ⟨C, c1, c2, by rw [h1]; exact c3, fun s hs => by rw [h2 s hs]; exact c4 s hs, fun n hn => by rw [h3 n hn]; exact c5 n hn, by rw [h4]; exact c6⟩
/-- the owners as they are read at once -/
theorem VB.owners {w : World} {b : Nat} {v : Vw} (h : VB w b v) : ∃ OW : Array Value, OW.size = 16384 ∧ (∀ s, s < 16384 → OW[s]? = some (.int .i8 (ownZ (v.own s)))) ∧ w.rangeAt b 1 OW.toList := by
  obtain ⟨C, c1, c2, c3, c4, c5, c6⟩ := h
  refine ⟨C.extract 1 16385, by rw [Array.size_extract, c2]; decide, fun s hs => ?_, fun j u hu => ?_⟩
  · rw [Array.getElem?_extract, if_pos (by omega)]; exact c4 s hs
  · have hj : j < 16384 := by
      have := (List.getElem?_eq_some_iff.1 hu).1
      rwa [Array.length_toList, Array.size_extract, c2] at this
    rw [Array.getElem?_toList, Array.getElem?_extract, if_pos (by omega)] at hu
    rw [cell_of_row w b _ _ _ _ c1]; exact hu
theorem index_own {OW : Array Value} {z : Value} {s : Nat} (hs : s < 16384) (h : OW[s]? = some z) (w : World) : (Instr.index 106 (.agg OW) (.int .i64 (s : Int))).run Tryz.prog w = .ok z w := by
  have h1 : (0 : Int) ≤ (s : Int) ∧ (s : Int) < 16384 := by omega
  simp [Instr.index, asIntOf, run_underlying Tryz.underlying106, hs, h1, part, Tryz.isAgg105, Tryz.sizeOf105, h]
theorem infoOwn {OW : Array Value} (h : OW.size = 16384) : (Tryz.prog.info? 106).map (·.size) = some OW.toList.length := by
  rw [Array.length_toList, h]; kernel_rfl
/-- the view with the epoch, and the slots below k given up -/
def bl1 (v : Vw) (n e : Nat) : Vw := { v with ep := fun m => if m = n then e else v.ep m }
def bl2 (v : Vw) (n e k : Nat) : Vw := { bl1 v n e with own := fun s => if s < k ∧ v.own s = n then 64 else v.own s }
/-- the view with the slots of a list taken -/
def bl3 (v : Vw) (n e : Nat) (l : List Nat) : Vw := { bl1 v n e with own := fun s => if s ∈ l ∧ ((bl2 v n e 16384).own s = 64 ∨ (bl1 v n e).ep ((bl2 v n e 16384).own s) < e) then n else (bl2 v n e 16384).own s }
theorem bl2_step {v : Vw} {n e k : Nat} {w : World} {b : Nat} (h : VB w b (bl2 v n e k)) (hk : k < 16384) (hn : v.own k = n) : VB (w.setCell ⟨b, 1 + k, none⟩ (.int .i8 (-1))) b (bl2 v n e (k + 1)) := by
  have := h.setOwn (n := 64) hk
  rw [show ownZ 64 = -1 from rfl] at this
  refine this.congr rfl (fun s _ => ?_) (fun _ _ => rfl) rfl
  show (if s < k + 1 ∧ v.own s = n then 64 else v.own s) = if s = k then 64 else (if s < k ∧ v.own s = n then 64 else v.own s)
  by_cases c : s = k
  · rw [c, if_pos ⟨Nat.lt_succ_self _, hn⟩, if_pos rfl]
  · rw [if_neg c]
    by_cases d : s < k ∧ v.own s = n
    · rw [if_pos d, if_pos ⟨by omega, d.2⟩]
    · rw [if_neg d, if_neg (fun x => d ⟨by omega, x.2⟩)]
theorem bl2_same {v : Vw} {n e k : Nat} {w : World} {b : Nat} (h : VB w b (bl2 v n e k)) (hn : v.own k ≠ n) : VB w b (bl2 v n e (k + 1)) := by
  refine h.congr rfl (fun s _ => ?_) (fun _ _ => rfl) rfl
  show (if s < k + 1 ∧ v.own s = n then 64 else v.own s) = if s < k ∧ v.own s = n then 64 else v.own s
  by_cases d : s < k ∧ v.own s = n
  · rw [if_pos d, if_pos ⟨by omega, d.2⟩]
  · rw [if_neg d, if_neg (fun x => d ⟨by
      have := x.1
      have : s ≠ k := fun c => hn (by rw [← c]; exact x.2)
      omega, x.2⟩)]
/-- is it taken? -/
def tkB (v : Vw) (n e : Nat) (l : List Nat) (x : Nat) : Prop := (bl3 v n e l).own x = 64 ∨ (bl1 v n e).ep ((bl3 v n e l).own x) < e
theorem bl3_at {v : Vw} {n e : Nat} {l : List Nat} {x : Nat} : (bl3 v n e l).own x = n ∨ (bl3 v n e l).own x = (bl2 v n e 16384).own x := by
  show (if _ then n else _) = n ∨ (if _ then n else _) = _
  split
  · exact .inl rfl
  · exact .inr rfl
theorem bl3_take {v : Vw} {n e : Nat} {w : World} {b x : Nat} {l : List Nat} (h : VB w b (bl3 v n e l)) (hx : x < 16384) (hn : n < 64) (ht : tkB v n e l x) : VB (w.setCell ⟨b, 1 + x, none⟩ (.int .i8 (n : Int))) b (bl3 v n e (l ++ [x])) := by
  have hz : (n : Int) = ownZ n := by unfold ownZ; rw [if_pos hn]
  rw [hz]
  refine (h.setOwn (n := n) hx).congr rfl (fun s _ => ?_) (fun _ _ => rfl) rfl
  have hne : ¬ ((n = 64) ∨ (bl1 v n e).ep n < e) := by
    show ¬ ((n = 64) ∨ (if n = n then e else v.ep n) < e)
    rw [if_pos rfl]; omega
  have hbx : (bl2 v n e 16384).own x = 64 ∨ (bl1 v n e).ep ((bl2 v n e 16384).own x) < e := by
    rcases bl3_at (v := v) (e := e) (l := l) (x := x) with c | c
    · unfold tkB at ht; rw [c] at ht; exact absurd ht hne
    · unfold tkB at ht; rw [c] at ht; exact ht
  show (if s ∈ l ++ [x] ∧ ((bl2 v n e 16384).own s = 64 ∨ (bl1 v n e).ep ((bl2 v n e 16384).own s) < e) then n else (bl2 v n e 16384).own s) = if s = x then n else (if s ∈ l ∧ ((bl2 v n e 16384).own s = 64 ∨ (bl1 v n e).ep ((bl2 v n e 16384).own s) < e) then n else (bl2 v n e 16384).own s)
  by_cases c : s = x
  · subst c
    rw [if_pos rfl, if_pos ⟨by simp, hbx⟩]
  · rw [if_neg c]
    by_cases d : s ∈ l
    · by_cases q : (bl2 v n e 16384).own s = 64 ∨ (bl1 v n e).ep ((bl2 v n e 16384).own s) < e
      · rw [if_pos ⟨List.mem_append_left _ d, q⟩, if_pos ⟨d, q⟩]
      · rw [if_neg (fun z => q z.2), if_neg (fun z => q z.2)]
    · rw [if_neg (fun z => by
        rcases List.mem_append.1 z.1 with y | y
        · exact d y
        · exact c (List.mem_singleton.1 y)), if_neg (fun z => d z.1)]
theorem bl3_keep {v : Vw} {n e : Nat} {w : World} {b x : Nat} {l : List Nat} (h : VB w b (bl3 v n e l)) (ht : ¬ tkB v n e l x) : VB w b (bl3 v n e (l ++ [x])) := by
  refine h.congr rfl (fun s _ => ?_) (fun _ _ => rfl) rfl
  show (if s ∈ l ++ [x] ∧ ((bl2 v n e 16384).own s = 64 ∨ (bl1 v n e).ep ((bl2 v n e 16384).own s) < e) then n else (bl2 v n e 16384).own s) = (if s ∈ l ∧ ((bl2 v n e 16384).own s = 64 ∨ (bl1 v n e).ep ((bl2 v n e 16384).own s) < e) then n else (bl2 v n e 16384).own s)
  by_cases d : s ∈ l
  · by_cases q : (bl2 v n e 16384).own s = 64 ∨ (bl1 v n e).ep ((bl2 v n e 16384).own s) < e
    · rw [if_pos ⟨List.mem_append_left _ d, q⟩, if_pos ⟨d, q⟩]
    · rw [if_neg (fun z => q z.2), if_neg (fun z => q z.2)]
  · by_cases c : s = x
    · subst c
      have e1 : (bl3 v n e l).own s = (bl2 v n e 16384).own s := if_neg (fun z => d z.1)
      rw [if_neg (fun z => ht (by unfold tkB; rw [e1]; exact z.2)), if_neg (fun z => d z.1)]
    · rw [if_neg (fun z => by
        rcases List.mem_append.1 z.1 with y | y
        · exact d y
        · exact c (List.mem_singleton.1 y)), if_neg (fun z => d z.1)]
theorem bl3_end {v : Vw} {n : Nat} {p : Pk} {w : World} {b : Nat} (h : VB w b (bl3 v n p.epoch (slots p.cl))) : VB w b (claimV v n p) := by
  refine h.congr rfl (fun s hs => ?_) (fun _ _ => rfl) rfl
  show (if p.cl s then (if v.own s = 64 ∨ v.own s = n ∨ v.ep (v.own s) < p.epoch then n else v.own s) else (if v.own s = n then 64 else v.own s)) = (if s ∈ slots p.cl ∧ ((if s < 16384 ∧ v.own s = n then 64 else v.own s) = 64 ∨ (if (if s < 16384 ∧ v.own s = n then 64 else v.own s) = n then p.epoch else v.ep (if s < 16384 ∧ v.own s = n then 64 else v.own s)) < p.epoch) then n else (if s < 16384 ∧ v.own s = n then 64 else v.own s))
  cases hc : p.cl s with
  | false =>
    simp only [Bool.false_eq_true, if_false]
    rw [if_neg (show ¬ (s ∈ slots p.cl ∧ _) from fun z => by have := (slots_mem.1 z.1).2; rw [hc] at this; cases this)]
    by_cases c : v.own s = n
    · rw [if_pos c, if_pos ⟨hs, c⟩]
    · rw [if_neg c, if_neg (fun z => c z.2)]
  | true =>
    have hm : s ∈ slots p.cl := slots_mem.2 ⟨hs, hc⟩
    simp only [if_true]
    by_cases c : v.own s = n
    · rw [if_pos (.inr (.inl c)), if_pos (show s < 16384 ∧ v.own s = n from ⟨hs, c⟩), if_pos ⟨hm, .inl rfl⟩]
    · rw [if_neg (show ¬ (s < 16384 ∧ v.own s = n) from fun z => c z.2), if_neg c]
      by_cases d : v.own s = 64 ∨ v.ep (v.own s) < p.epoch
      · rw [if_pos (by rcases d with d | d; exact .inl d; exact .inr (.inr d)), if_pos ⟨hm, d⟩]
      · rw [if_neg (fun z => by rcases z with z | z | z; exact d (.inl z); exact c z; exact d (.inr z)), if_neg (fun z => d z.2)]

end Go.Proofs.YtbfllifgmlkndaaGreatDoor
