/- BnNodes. -/
import Derived.Test.YtbfllifgmlkndaaGreatDoorM48
namespace Go.Proofs.YtbfllifgmlkndaaGreatDoor
open Go.RowKit
open Slot

/-- a row of buses -/
def Pts (w : World) (g : Nat) (bs : Nat → Nat) (n : Nat) : Prop := ∃ cur, w.heap[g]? = some (.cells cur 28 (0, 0)) ∧ ∀ i, i < n → cur[i]? = some (.pointer (some ⟨bs i, 0, none⟩))
theorem Pts.get {w : World} {g n : Nat} {bs : Nat → Nat} (h : Pts w g bs n) {i : Nat} (hi : i < n) : w.cell? ⟨g, i, none⟩ = some (.pointer (some ⟨bs i, 0, none⟩)) := by
  obtain ⟨cur, h1, h2⟩ := h
  rw [cell_of_row w g i cur _ _ h1]
  exact h2 i hi
theorem Pts.keep {w w' : World} {g n : Nat} {bs : Nat → Nat} (h : Pts w g bs n) (hk : ∀ cur, w.heap[g]? = some (.cells cur 28 (0, 0)) → w'.heap[g]? = w.heap[g]?) : Pts w' g bs n := by
  obtain ⟨cur, h1, h2⟩ := h
  exact ⟨cur, (hk cur h1).trans h1, h2⟩
def ptrL (bs : Nat → Nat) (k : Nat) : List Value := (List.range k).map fun i => .pointer (some ⟨bs i, 0, none⟩)
theorem ptrL_succ (bs : Nat → Nat) (k b : Nat) : ptrL (upd bs k b) (k + 1) = ptrL bs k ++ [.pointer (some ⟨b, 0, none⟩)] := by
  unfold ptrL
  rw [List.range_succ, List.map_append]
  congr 1
  · refine List.map_congr_left fun i hi => ?_
    rw [upd_ne _ _ (by have := List.mem_range.1 hi; omega)]
  · simp [upd_same]
def NodesP (C : List Int) (n : Nat) (w : World) (e : Ending) (w' : World) : Prop := ∃ g cap bs vbs Fs vs os, e = .returned (.slice (some ⟨g, 0, none⟩) n cap) ∧ w.heap.size ≤ g ∧ Pts w' g bs n ∧ Nt w w' C n n bs vbs Fs vs os 0
theorem owns_slice4 {w : World} {B : Nat} {e : TypeId} {s : Nat} {v : Value} {n : Nat} {xs : List Value} (h : w.ownsRow B e s v n xs) : ∃ a c, v = .slice a n c := by
  rcases h.2 with ⟨rfl, rfl⟩ | ⟨g, cap, _, rfl, _⟩
  · exact ⟨_, _, rfl⟩
  · exact ⟨_, _, rfl⟩
/-- nodes, on its way -/
structure Nl (w wr : World) (NC : Array Value) (C : List Int) (n k : Nat) (v : Value) (bs vbs : Nat → Nat) (Fs : Nat → Nat → Prop) (vs : Nat → Vw) (os : Nat → List (Int × Bs)) : Prop where
  nt : Nt w wr C n k bs vbs Fs vs os 0
  row : wr.ownsRow w.heap.size 28 1 v k (ptrL bs k)
  net : wr.heap[w.heap.size]? = some (.cells NC 63 (0, 0))
theorem Nl.call {w wr w' : World} {NC : Array Value} {C : List Int} {n k : Nat} {v : Value} {bs vbs : Nat → Nat} {Fs : Nat → Nat → Prop} {vs : Nat → Vw} {os : Nat → List (Int × Bs)} (h : Nl w wr NC C n k v bs vbs Fs vs os) (hb : Below wr.heap.size wr w') : Nl w w' NC C n k v bs vbs Fs vs os := by
  refine ⟨h.nt.call hb, ?_, (hb.block _ (Array.getElem?_eq_some_iff.1 h.net).1).trans h.net⟩
  refine ⟨h.row.1, ?_⟩
  rcases h.row.2 with h2 | ⟨gg, cp, cur', hv, hg, hh, r⟩
  · exact .inl h2
  · exact .inr ⟨gg, cp, cur', hv, hg, (hb.block gg (Array.getElem?_eq_some_iff.1 hh).1).trans hh, r⟩
theorem infoPb : (Tryz.prog.info? 28).map (fun i => (i.zero.isSome, i.size, i.bytes)) = some (true, 1, 8) := by kernel_rfl
theorem zeroPb : ((Tryz.prog.info? 28).bind (fun i => i.zero)).map (fun z => z.cells.size) = some 1 := by kernel_rfl
/-- one more bus -/
theorem nl_push {w wr w2 : World} {NC : Array Value} {C : List Int} {n k : Nat} {v : Value} {bs vbs : Nat → Nat} {Fs : Nat → Nat → Prop} {vs : Nat → Vw} {os : Nat → List (Int × Bs)} (h : Nl w wr NC C n k v bs vbs Fs vs os) (hk : k ≤ 10) {b vb : Nat} {F : Nat → Prop} {u : Vw} (hB : BB 7 w2 F b vb u []) (hF : ∀ x, F x → wr.heap.size ≤ x) (hb : Below wr.heap.size wr w2) (hu : Inv (oN C n) k u) :
    ∃ v' W', (Builtin.append_ #[64, 64] 64 #[v, .slice (some ⟨w2.heap.size, 0, none⟩) 1 1]).run Tryz.prog (w2.alloc (.cells #[.pointer (some ⟨b, 0, none⟩)] 28)) = .ok v' W' ∧ ∃ F0, Nl w W' NC C n (k + 1) v' (upd bs k b) (upd vbs k vb) (upd Fs k F0) (upd vs k u) (upd os k []) := by
  obtain ⟨F0, hN⟩ := h.nt.add hB hF hb hu
  have h2 := h.call hb
  have hb3 := below_alloc w2 (.cells #[.pointer (some ⟨b, 0, none⟩)] 28)
  have hN3 := hN.call hb3
  have h3 := h2.call hb3
  obtain ⟨W3, hW3⟩ : ∃ W, w2.alloc (.cells #[.pointer (some ⟨b, 0, none⟩)] 28) = W := ⟨_, rfl⟩
  have hnew : W3.heap[w2.heap.size]? = some (.cells #[.pointer (some ⟨b, 0, none⟩)] 28 (0, 0)) := by rw [← hW3]; exact heap_alloc_new w2 _
  rw [hW3] at hN3 h3 ⊢
  have hi := infoPb
  cases hi0 : Tryz.prog.info? 28 with
  | none => rw [hi0] at hi; cases hi
  | some i0 =>
    rw [hi0] at hi
    simp only [Option.map_some, Option.some.injEq, Prod.mk.injEq] at hi
    obtain ⟨hz0, hz1, hz2⟩ := hi
    obtain ⟨z, hz⟩ := Option.isSome_iff_exists.1 hz0
    have hzs : z.cells.size = 1 := by
      have hk := zeroPb
      rw [hi0, Option.bind_some, hz] at hk
      simpa using hk
    obtain ⟨v', W', hrun, ho, hgr, -⟩ := run_append_own (P := Tryz.prog) W3 w.heap.size 64 64 28 i0 z 1 8 Tryz.underlying64 hi0 hz hz1 hz2 hzs (by decide) _ _ _ h3.row ⟨w2.heap.size, 0, none⟩ 1 1 [.pointer (some ⟨b, 0, none⟩)] rfl
      (fun j u hj => by
        rw [Go.WideShapes.add_plain, Nat.zero_add, cell_of_row W3 w2.heap.size j _ _ _ hnew]
        match j, hj with
        | 0, hj => exact hj)
      (fun u hu => by rw [List.mem_singleton.1 hu]; rfl) (by unfold maxLen; omega) (by omega) h3.nt.bel.size
    have keep : ∀ (x : Nat) (C : Array Value) (t : TypeId) (fr : Nat × Nat), W3.heap[x]? = some (.cells C t fr) → t ≠ 28 → W'.heap[x]? = W3.heap[x]? := fun x C t fr e hne => hgr.block x (Array.getElem?_eq_some_iff.1 e).1 (fun e2 => by
      rcases h3.row.2 with ⟨hv, -⟩ | ⟨gg, cp, cur', hv, hg, hh, r⟩
      · rw [hv] at e2; cases e2
      · rw [hv] at e2
        have e3 : gg = x := Option.some.inj (show some gg = some x from e2.symm)
        rw [e3, e] at hh
        injection hh with hh
        injection hh with _ hh _
        exact hne hh)
    have hbl : Below w.heap.size W3 W' := (Below.refl w.heap.size W3).grown hgr h3.nt.bel.size (fun x hx => (World.ownsRow.lt h3.row x hx).1)
    refine ⟨v', W', hrun, F0, hN3.same hbl.size (fun i hi x hf => ?_) (h3.nt.bel.trans hbl), ?_, (keep _ _ _ _ h3.net (by decide)).trans h3.net⟩
    · obtain ⟨C', t, fr, e1, e2⟩ := hN3.ty i hi x hf
      exact keep x C' t fr e1 (by rcases e2 with rfl | rfl | rfl <;> decide)
    · rw [ptrL_succ]; exact ho
set_option maxHeartbeats 4000000 in
set_option maxRecDepth 100000 in
theorem nodes_no (a : Option Addr) (n c : Nat) (w : World) (hn : n = 0 ∨ 6 < n) (hm : n ≤ 9223372036854775807) : Calls Tryz.prog 21 #[.agg #[.slice a n c]] w fun e w' => e = .returned (.slice none 0 0) ∧ Below w.heap.size w w' := by
  have HW := hid (below_alloc w (.cells #[.slice a n c] 63))
  rcases hn with rfl | hn
  · go_enter Tryz.func21, Tryz.ntmps21
    go_wp2_with fail
    go_ret
    exact ⟨rfl, HW.out⟩
  · have hz1 : ¬ (n : Int) < 1 := by omega
    have hz2 : (6 : Int) < (n : Int) := by omega
    go_enter Tryz.func21, Tryz.ntmps21
    go_wp2_with fail
    go_ret
    exact ⟨rfl, HW.out⟩
set_option maxHeartbeats 4000000 in
set_option maxRecDepth 100000 in
theorem nodes_any (a : Option Addr) (C : List Int) (n c : Nat) (w : World) (hE : Env w) (hn : C.length = n) (hC : IntsR w a C) (ha : ∀ x, a = some x → x.block < w.heap.size) (h1 : 1 ≤ n) (h6 : n ≤ 6) : Calls Tryz.prog 21 #[.agg #[.slice a n c]] w (NodesP C n w) := by
  have HN1 : Hid ((w.alloc (.cells #[.slice a n c] 63)).heap[w.heap.size]? = some (.cells #[.slice a n c] 63 (0, 0))) := heap_alloc_new w _
  have HW1 := hid (below_alloc w (.cells #[.slice a n c] 63))
  have HCl := hid (fun (i : Nat) (W : World) (hb : Below w.heap.size w W) => nclaims_any a C n c (i : Int) W hn (hC.below hb (Nat.le_refl _)) (fun x e => Nat.lt_of_lt_of_le (ha x e) hb.size) (by omega))
  have HNw : Hid (∀ (i : Nat) (W : World), i < 6 → 7 ≤ W.heap.size → Calls Tryz.prog 7 #[.int .i64 (i : Int), .agg (cellsOf (claimsTo C (i : Int) n 64)), .int .u64 ((i : Int) + 1)] W (UNewP 7 (newV i (claimsTo C (i : Int) n 64) (i + 1)) W)) := fun i W hi h7 => by
    have h := unew_yes 7 i (i + 1) (claimsTo C (i : Int) n 64) W h7 (by omega) (by omega)
    rw [show ((i + 1 : Nat) : Int) = (i : Int) + 1 by omega] at h
    exact h
  have HIn : Hid (∀ i : Nat, i < 6 → Inv (oN C n) i (newV i (claimsTo C (i : Int) n 64) (i + 1))) := fun i hi => Inv.new (by omega) (fun s _ => oN_claims C n i (by omega) s)
  have HNc : Hid (∀ W : World, W.heap[w.heap.size]? = some (.cells #[.slice a n c] 63 (0, 0)) → W.cell? ⟨w.heap.size, 0, none⟩ = some (.slice a n c)) := fun W h => cell_of_row W w.heap.size 0 _ _ _ h
  have HE := hid hE
  have HFin : Hid (∀ v bs vbs Fs vs os wr, Nl w wr #[.slice a n c] C n n v bs vbs Fs vs os → NodesP C n w (.returned v) wr) := fun v bs vbs Fs vs os wr h => by
    rcases h.row.2 with ⟨-, h0⟩ | ⟨g, cap, cur, rfl, hg, hh, k1, k2, k3, k4⟩
    · omega
    · refine ⟨g, cap, bs, vbs, Fs, vs, os, rfl, hg, ⟨cur, hh, fun i hi => ?_⟩, h.nt⟩
      have := congrArg (fun l : List Value => l[i]?) k4
      simp only [List.getElem?_take] at this
      rw [if_pos (by omega), Array.getElem?_toList] at this
      rw [this]
      unfold ptrL
      rw [List.getElem?_map, List.getElem?_range hi]; rfl
  have HNl0 : Hid (Nl w (w.alloc (.cells #[.slice a n c] 63)) #[.slice a n c] C n 0 (.slice none 0 0) (fun _ => 0) (fun _ => 0) (fun _ _ => False) (fun _ => vZ) (fun _ => [])) :=
    ⟨⟨fun i hi => absurd hi (Nat.not_lt_zero _), fun i hi => absurd hi (Nat.not_lt_zero _), fun i hi => absurd hi (Nat.not_lt_zero _), fun i j hi => absurd hi (Nat.not_lt_zero _), fun i hi => absurd hi (Nat.not_lt_zero _), fun i hi => absurd hi (Nat.not_lt_zero _), fun i hi => absurd hi (Nat.not_lt_zero _), HW1.out⟩, World.ownsRow_nil _ _ _ _, HN1.out⟩
  have hz1 : ¬ (n : Int) < 1 := by omega
  have hz2 : ¬ (6 : Int) < (n : Int) := by omega
  have hz3 : (n : Int) ≤ 6 := by omega
  obtain ⟨NC, hNC⟩ : ∃ C : Array Value, #[.slice a n c] = C := ⟨_, rfl⟩
  have iN : (Tryz.prog.info? 63).map (·.size) = some NC.size := by rw [← hNC]; show _ = some 1; kernel_rfl
  rw [hNC] at HN1 HW1 HCl HNc HFin HNl0 ⊢
  clear hNC hE hn hC ha
  go_enter Tryz.func21, Tryz.ntmps21
  go_upto_region 2 with fail
  generalize w.alloc (.cells NC 63) = w1 at *
  have c0 := HNc.out _ HN1.out
  go_wp2_with fail
  clear c0 hz1 hz2
  go_loopw [3, 20] (fun l i wr => ∃ k : Nat, k ≤ n ∧ i = .int .i64 (k : Int) ∧ ∃ al cl, l = .slice al k cl ∧ Hid (∃ bs vbs Fs vs os, Nl w wr NC C n k (.slice al k cl) bs vbs Fs vs os)) (fun _ i _ => n - (intOf i).toNat)
  case atStart => exact ⟨0, Nat.zero_le _, rfl, none, 0, rfl, _, _, _, _, _, HNl0.out⟩
  case round =>
    clear HNl0 HN1 HW1
    obtain ⟨k, hk, rfl, al, cl, rfl, HX⟩ := hrel
    obtain ⟨bs, vbs, Fs, vs, os, hN⟩ := HX.out
    have HNl := hid hN
    clear HX hN
    by_cases hlt : k < n
    · have hkz : (k : Int) < (n : Int) := by omega
      have HNr := hid HNl.out.net
      have HClk := hid (HCl.out k wr HNl.out.nt.bel)
      have HNwk := hid (fun W h => HNw.out k W (by omega) h)
      have HIk := hid (HIn.out k (by omega))
      obtain ⟨u, hu⟩ : ∃ u, newV k (claimsTo C (k : Int) n 64) (k + 1) = u := ⟨_, rfl⟩
      rw [hu] at HNwk HIk
      obtain ⟨CS, hCS⟩ : ∃ x, cellsOf (claimsTo C (k : Int) n 64) = x := ⟨_, rfl⟩
      rw [hCS] at HClk HNwk
      clear hu hCS
      go_wp2_with (refine wpList_load_row rfl 63 _ rfl w.heap.size rfl 63 _ (0, 0) _ HNr.out Tryz.underlying63 rfl iN ?_)
      refine HClk.out.mono ?_; rintro r w2 ⟨rfl, hb2⟩
      have HNl2 := hid (HNl.out.call hb2)
      have HE2 := hid (HE.out.below HNl2.out.nt.bel HE.out.room)
      clear hb2 HNl HNr HClk
      go_wp2_with fail
      refine (HNwk.out w2 HE2.out.room).mono ?_; rintro r w3 ⟨b, vb, F, rfl, hB, hF, hb3⟩
      obtain ⟨v', W', hr, F0, hN4⟩ := nl_push HNl2.out (by omega) hB hF hb3 HIk.out
      have HR := hid hr
      obtain ⟨al4, cl4, rfl⟩ := owns_slice4 hN4.row
      have HN4 := hid hN4
      clear hB hF hb3 hr hN4 HNl2 HE2 HNwk
      go_wp2_with (at_builtin; refine wpList_append_run rfl _ _ 64 rfl _ _ _ _ rfl rfl HR.out ?_)
      go_roundw
      case rel => exact ⟨k + 1, by omega, by go_num, al4, cl4, rfl, _, _, _, _, _, HN4.out⟩
      case measure => simp [intOf]; omega
    · obtain rfl : k = n := by omega
      have HF := hid (HFin.out _ _ _ _ _ _ _ HNl.out)
      go_wp2_with fail
      go_ret
      exact HF.out

end Go.Proofs.YtbfllifgmlkndaaGreatDoor
