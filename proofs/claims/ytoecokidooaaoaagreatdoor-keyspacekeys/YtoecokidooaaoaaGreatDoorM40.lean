/- KS6, KS8, KS7, KS9. -/
import Derived.Test.YtoecokidooaaoaaGreatDoorM33
import Derived.Shelf.SlMaps.Clone
namespace Go.Proofs.YtoecokidooaaoaaGreatDoor
open Go.RowKit

set_option maxHeartbeats 1000000 in
set_option maxRecDepth 100000 in
/-- the first texts of a row, put behind nothing -/
theorem take_run (p : Option Addr) (c k : Nat) (l : Row) (w : World) (h : Rd w p c l) (hk : k ≤ l.length) (hl : l.length ≤ 10000) :
    ∃ q d W', (Builtin.append_ #[33, 33] 33 #[.slice none 0 0, .slice p k c]).run Tryz.prog w = .ok (.slice q k d) W' ∧ Own w.heap.size W' (.slice q k d) (l.take k) ∧ Below w.heap.size w W' := by
  obtain ⟨i0, hi, hz0, hz1, hz2⟩ := info_parts infoS
  have ho : Own w.heap.size w (.slice none 0 0) [] := World.ownsRow_nil _ _ _ _
  have hlen : (l.take k).length = k := by rw [List.length_take]; omega
  cases p with
  | none =>
    have hl0 : l = [] := by
      cases l with
      | nil => rfl
      | cons x r =>
        obtain ⟨b, o, e, _⟩ := h.strs (by simp)
        cases e
    have hc := h.nil rfl
    subst hl0 hc
    have hk0 : k = 0 := by simpa using hk
    subst hk0
    exact ⟨none, 0, w, append_none ho, by simpa using ho, Below.refl _ _⟩
  | some a =>
    obtain ⟨v', W', hrun, ho', hgr, _⟩ := run_append_own (P := Tryz.prog) w w.heap.size 33 33 9 i0 (.string ⟨#[]⟩) 1 16 Tryz.underlying33 hi hz0 hz1 hz2 rfl (by decide) _ _ _ ho a k c ((l.take k).map txt) (by simp; omega)
      (fun j u' hj => by
        rw [List.getElem?_map] at hj
        cases hm : (l.take k)[j]? with
        | none => rw [hm] at hj; cases hj
        | some x =>
          rw [hm] at hj
          obtain ⟨hjl, e⟩ := List.getElem?_eq_some_iff.1 hm
          rw [hlen] at hjl
          obtain ⟨g, off, e2, hc⟩ := h.strs (fun e => by rw [e] at hk; simp at hk; omega)
          injection e2 with e2
          subst e2
          rw [Go.WideShapes.add_plain, ← hj, ← e, List.getElem_take]
          exact hc j (by omega))
      (fun u' hu' => by
        obtain ⟨x, _, rfl⟩ := List.mem_map.1 hu'
        rfl) (by unfold maxLen; simp; omega) (by simp; omega) (Nat.le_refl _)
    have ho2 : Own w.heap.size W' v' (l.take k) := by
      show W'.ownsRow _ _ 1 v' (l.take k).length _
      rw [hlen]
      simpa using ho'
    obtain ⟨q, d, hsh, -⟩ := ho2.shape
    rw [hlen] at hsh
    subst hsh
    exact ⟨q, d, W', hrun, ho2, (Below.refl _ w).grown hgr (Nat.le_refl _) (fun k hk => by cases hk)⟩
/-- a space without keys -/
theorem new_sp {B : Nat} {w w1 : World} {d : Nat} {room : Int} (h : ∃ O, Dc.DE.Dq B w1 d O Dc.newD ∧ (∀ k, O k → w.heap.size ≤ k) ∧ Below w.heap.size w w1) :
    ∃ O A, Sp B ((w1.alloc (.map #[] 0)).alloc (.cells #[.int .i64 room, .int .i64 0, .int .i64 0, .int .i64 1099511627777, ptr d, .map (some w1.heap.size)] 71)) (w1.heap.size + 1) O A [] room 0 ∧ (∀ k, A k → w.heap.size ≤ k) ∧ Below w.heap.size w ((w1.alloc (.map #[] 0)).alloc (.cells #[.int .i64 room, .int .i64 0, .int .i64 0, .int .i64 1099511627777, ptr d, .map (some w1.heap.size)] 71)) := by
  obtain ⟨Od, hq, ho, hb⟩ := h
  have hb2 : Below w1.heap.size w1 ((w1.alloc (.map #[] 0)).alloc (.cells #[.int .i64 room, .int .i64 0, .int .i64 0, .int .i64 1099511627777, ptr d, .map (some w1.heap.size)] 71)) := (below_alloc w1 _).alloc (by simp) _
  have hlt := Dc.DE.dq_lt hq
  have hBs := Dc.DE.dq_base hq
  have hs := hb.size
  have hz : ((w1.alloc (.map #[] 0)).alloc (.cells #[.int .i64 room, .int .i64 0, .int .i64 0, .int .i64 1099511627777, ptr d, .map (some w1.heap.size)] 71)).heap.size = w1.heap.size + 2 := by simp
  have hmap : ((w1.alloc (.map #[] 0)).alloc (.cells #[.int .i64 room, .int .i64 0, .int .i64 0, .int .i64 1099511627777, ptr d, .map (some w1.heap.size)] 71)).heap[w1.heap.size]? = some (.map #[] 0) := (heap_alloc_old _ _ (by simp)).trans (heap_alloc_new w1 _)
  refine ⟨fun k => k = w1.heap.size + 1 ∨ k = w1.heap.size ∨ Od k, fun k => k = w1.heap.size + 1 ∨ k = w1.heap.size ∨ Od k, ⟨d, w1.heap.size, Od, Dc.newD, fun _ => [], 0, 1099511627777, ⟨?_, ?_, ?_, fun _ => Iff.rfl, by omega, (fun h => by have := hlt _ h; omega), (fun h => by have := hlt _ h; omega), fun _ h => h, fun k hk => ?_, (fun p hp => by cases hp)⟩, ⟨rfl, (fun p hp => by cases hp), Dc.Srt.nil, fun _ => rfl, rfl, (fun x hx => by cases hx), by simp, Dc.Small.new.mono (by omega)⟩, ⟨(fun x hx => by cases hx), by omega, by omega⟩⟩, fun k hk => ?_, hb.trans (hb2.mono hs)⟩
  · have := heap_alloc_new (w1.alloc (.map #[] 0)) (.cells #[.int .i64 room, .int .i64 0, .int .i64 0, .int .i64 1099511627777, ptr d, .map (some w1.heap.size)] 71)
    rwa [show (w1.alloc (.map #[] 0)).heap.size = w1.heap.size + 1 by simp] at this
  · exact Dc.DE.dq_turn hq (fun k hk => hb2.block k (by rcases hk with hk | hk; omega; exact hlt k hk)) hb2.size
  · exact ⟨#[], 0, hmap, (fun e he => by simp at he), (fun n hn => absurd rfl hn), by simp⟩
  · rw [hz]
    rcases hk with rfl | rfl | hk
    · omega
    · omega
    · have := hlt k hk
      have := dq_ge hq k hk
      omega
  · rcases hk with rfl | rfl | hk
    · omega
    · omega
    · exact ho k hk
set_option maxHeartbeats 2000000 in
set_option maxRecDepth 100000 in
/-- New -/
theorem knew_any {B : Nat} (hB0 : 0 < B) (w : World) (hV : Tab w) (hB : B ≤ w.heap.size) (room : Int) :
    Calls Tryz.prog 24 #[.int .i64 room] w fun e w' => ∃ b, e = .returned (ptr b) ∧ Hid (∃ O A, Sp B w' b O A [] room 0 ∧ (∀ k, A k → w.heap.size ≤ k) ∧ Below w.heap.size w w') := by
  have hmm := @run_makeMap Tryz.prog
  have HN := hid (Dc.DE.dq_new hB0 w hV hB)
  clear hV
  go_enter Tryz.func24, Tryz.ntmps24
  go_wp2_with fail
  refine HN.out.mono ?_; rintro e w1 ⟨d, rfl, hh⟩
  have H1 := hid hh.out
  clear hh
  go_wp2_with fail
  go_ret
  refine ⟨_, rfl, ?_⟩
  exact new_sp H1.out
set_option maxHeartbeats 2000000 in
set_option maxRecDepth 100000 in
/-- Keys -/
theorem kkeys_any {B : Nat} {w : World} {b d mb : Nat} {O A Od : Nat → Prop} {D : Dc.DM E8} {f : Int → Row} {room mem now soon : Int} (h : SpC B w b d mb O A Od D f room mem now soon) (n most : Int) (hn : In64 n) (hl : (f n).length ≤ 10000) :
    Calls Tryz.prog 12 #[ptr b, .int .i64 n, .int .i64 most] w fun e w' => ∃ q c, e = .returned (.slice q ((f n).take most.toNat).length c) ∧ Hid (Own w.heap.size w' (.slice q ((f n).take most.toNat).length c) ((f n).take most.toNat) ∧ Below w.heap.size w w') := by
  obtain ⟨a0, a1, a2, a3, a4, a5⟩ := h.facts
  obtain ⟨p, c, hrd, -, hlk⟩ := h.map.look2 hn
  have hlk0 := hlk w rfl
  obtain ⟨k, hk⟩ : ∃ k : Nat, k = (max 0 (min most ((f n).length : Int))).toNat := ⟨_, rfl⟩
  have hkl : k ≤ (f n).length := by omega
  obtain ⟨q, e, W', hrun, ho, hb⟩ := take_run p c k (f n) w hrd hkl hl
  have htk : (f n).take most.toNat = (f n).take k := by
    by_cases h1 : most ≤ ((f n).length : Int)
    · rw [show most.toNat = k by omega]
    · rw [List.take_of_length_le (by omega), List.take_of_length_le (by omega)]
  have hlt : ((f n).take k).length = k := by rw [List.length_take]; omega
  rw [htk, hlt]
  have HO := hid ho
  have HB := hid hb
  have HR := hid hrun
  have hcap := hrd.cap
  have hkc : k ≤ c := by omega
  have hkz : max 0 (min most ((f n).length : Int)) = (k : Int) := by omega
  have hklz : (k : Int) ≤ ((f n).length : Int) := by omega
  have hkcz : (k : Int) ≤ (c : Int) := by omega
  generalize (f n).take k = T at *
  generalize (f n).length = z at *
  have hpn : (p = none ∧ c = 0 ∧ k = 0) ∨ ∃ a, p = some a := by
    cases p with
    | none => have := hrd.nil rfl; exact .inl ⟨rfl, this, by omega⟩
    | some a => exact .inr ⟨a, rfl⟩
  clear h hrd hlk ho hb hrun hk hkl htk hlt hn hl
  rcases hpn with ⟨rfl, rfl, rfl⟩ | ⟨a, rfl⟩
  · go_enter Tryz.func12, Tryz.ntmps12
    go_wp2_with (refine wpList_append_runs rfl _ _ 33 33 rfl _ _ _ _ rfl rfl HR.out (Hid.out ?_))
    refine hid ?_
    go_wp2_with fail
    go_ret
    exact ⟨q, e, rfl, HO.out, HB.out⟩
  · go_enter Tryz.func12, Tryz.ntmps12
    go_wp2_with (refine wpList_append_runs rfl _ _ 33 33 rfl _ _ _ _ rfl rfl HR.out (Hid.out ?_))
    refine hid ?_
    go_wp2_with fail
    go_ret
    exact ⟨q, e, rfl, HO.out, HB.out⟩

end Go.Proofs.YtoecokidooaaoaaGreatDoor

namespace Go.Proofs.YtoecokidooaaoaaGreatDoor
open Go.RowKit

theorem dq_clone {B : Nat} (b : Nat) (O : Nat → Prop) (D : Dc.DM E8) (w : World) (h : Dc.DE.Dq B w b O D) (hS : Dc.Small 100000 D) :
    Calls Tryz.prog 36 #[ptr b] w fun e w' => ∃ c, e = .returned (ptr c) ∧ Hid (∃ O', Dc.DE.Dq B w' c O' D ∧ (∀ k, O' k → w.heap.size ≤ k) ∧ Below w.heap.size w w') := by
  obtain ⟨g, nb, ev, T, hO, hL, hG, hE, hnm⟩ := h
  refine (Dc.DE.clone_any hL (Dc.DE.Fit.of hG hS) hE.size).mono fun e w' ⟨cb, he, hh⟩ => ⟨cb, he, ?_⟩
  obtain ⟨gC, nb', ev', hL', hlt, hb⟩ := hh.out
  exact ⟨fun k => gC k ≠ none, ⟨gC, nb', ev', T, fun _ => Iff.rfl, hL', hG, hE.below hb hE.size, hnm⟩, hlt, hb⟩
set_option maxHeartbeats 2000000 in
set_option maxRecDepth 100000 in
/-- maps.Clone -/
theorem mclone_any (P : Nat → Prop) (mb : Nat) (f : Int → Row) (w : World) (h : MapIs P w mb f) :
    Calls Tryz.prog 37 #[.map (some mb)] w fun e w' => ∃ m, e = .returned (.map (some m)) ∧ Hid (MapIs P w' m f ∧ w.heap.size ≤ m ∧ Below w.heap.size w w') := by
  obtain ⟨es, clk, hb, hm⟩ := h
  have HM := hid hm
  have HB := hid hb
  have hq := fun w => run_eql_map_nil_sl (P := Tryz.prog) w 69 _ _ (some mb) Tryz.underlying69
  clear hm hb
  go_enter Tryz.func37, Tryz.ntmps37
  go_wp2
  rw [run_callFunc_extern Tryz.func56 (by kernel_rfl) (by kernel_rfl) (by kernel_rfl) (e := Extern.MapsClone.clone) (by kernel_rfl), run_maps_clone_sl w 69 HB.out]
  simp only [Result.andThen]
  rw [Oper.upon_value]
  go_wp2
  rw [run_typeAssert_map_sl _ 69 20 _ _ _ Tryz.underlying69]
  simp only [Result.andThen]
  rw [Oper.upon_value]
  go_wp2
  go_ret
  have hb2 := below_alloc w (.map es clk)
  exact ⟨_, rfl, ⟨es, clk, heap_alloc_new w _, fun e he => (HM.out.keys e he).imp fun n hn => ⟨hn.1, hn.2.1, hn.2.2.keep (Keep.of_below hb2) (fun _ h => h)⟩, HM.out.has, HM.out.uniq⟩, Nat.le_refl _, hb2⟩
set_option maxHeartbeats 2000000 in
set_option maxRecDepth 100000 in
/-- Clone -/
theorem kclone_any {B : Nat} {w : World} {b d mb : Nat} {O A Od : Nat → Prop} {D : Dc.DM E8} {f : Int → Row} {room mem now soon : Int} (h : SpC B w b d mb O A Od D f room mem now soon) (hS : Dc.Small 100000 D) :
    Calls Tryz.prog 19 #[ptr b] w fun e w' => ∃ b', e = .returned (ptr b') ∧ Hid (∃ d' mb' O' A' Od', SpC B w' b' d' mb' O' A' Od' D f room mem now soon ∧ (∀ k, O' k → w.heap.size ≤ k) ∧ (∀ k, A' k → (A k ∧ ¬ O k) ∨ w.heap.size ≤ k) ∧ Below w.heap.size w w') := by
  obtain ⟨a0, a1, a2, a3, a4, a5⟩ := h.facts
  have hbl := h.blt.1
  have hba := below_alloc w (.cells (spC room mem now soon d mb) 71)
  have HBa := hid hba
  have H0 := hid (heap_alloc_new w (.cells (spC room mem now soon d mb) 71))
  have h1 := h.below hba
  have HC := hid (fun W (hq : Dc.DE.Dq B W d Od D) => dq_clone d Od D W hq hS)
  have HC1 := hid (HC.out _ h1.dq)
  have H := hid h
  clear h h1 hba hS
  go_enter Tryz.func19, Tryz.ntmps19
  go_wp2_with fail
  refine HC1.out.mono ?_; rintro e w1 ⟨dC, rfl, hh⟩
  obtain ⟨O', hq, ho, hb1⟩ := hh.out
  have hz0 : (w.alloc (.cells (spC room mem now soon d mb) 71)).heap.size = w.heap.size + 1 := by simp
  have HQ := hid hq
  have HO' := hid (fun k hk => (by have := ho k hk; omega : w.heap.size + 1 ≤ k))
  have HB1 := hid (HBa.out.trans (hb1.mono HBa.out.size))
  have HX1 := hid ((hb1.block w.heap.size (by omega)).trans H0.out)
  have h1 := H.out.below HB1.out
  have hs1 : w.heap.size + 1 ≤ w1.heap.size := by have := hb1.size; omega
  obtain ⟨b0, b1, b2, b3, b4, b5⟩ := h1.facts
  have x4 : w1.cell? ⟨w.heap.size, 4, none⟩ = some (ptr d) := cell_of_row w1 w.heap.size 4 _ _ _ HX1.out
  have x5 : w1.cell? ⟨w.heap.size, 5, none⟩ = some (.map (some mb)) := cell_of_row w1 w.heap.size 5 _ _ _ HX1.out
  have xf4 := frozen_of_row w1 w.heap.size 4 _ _ HX1.out
  have xf5 := frozen_of_row w1 w.heap.size 5 _ _ HX1.out
  have hne : ¬ w.heap.size = b := by omega
  have hbB : Below w.heap.size w (w1.setCell ⟨w.heap.size, 4, none⟩ (ptr dC)) := HB1.out.setCell (p := ⟨w.heap.size, 4, none⟩) (Nat.le_refl _) _
  have HB2 := hid hbB
  have HX2 : Hid ((w1.setCell ⟨w.heap.size, 4, none⟩ (ptr dC)).heap[w.heap.size]? = some (.cells (spC room mem now soon dC mb) 71 (0, 0))) := heap_setCell_same _ w.heap.size 4 _ _ _ HX1.out
  have h2 := H.out.below hbB
  have HMc := hid (mclone_any _ mb f _ h2.map)
  have hs2 : (w1.setCell ⟨w.heap.size, 4, none⟩ (ptr dC)).heap.size = w1.heap.size := by simp
  have HS2 := hid hs2
  have HQ2 : Hid (Dc.DE.Dq B (w1.setCell ⟨w.heap.size, 4, none⟩ (ptr dC)) dC O' D) := Dc.DE.dq_turn hq (fun k hk => heap_setCell_other _ _ _ _ (by show k ≠ w.heap.size; rcases hk with hk | hk; have := H.out.blt; omega; have := HO'.out k hk; omega)) (by omega)
  clear hh hq ho hb1 h1 h2 hbB a0 a1 a2 a3 a4 a5 hz0 hs2
  go_wp2_with fail
  refine HMc.out.mono ?_; rintro e w3 ⟨m, rfl, hh⟩
  have hX3 := (hh.out.2.2.block w.heap.size (by rw [HS2.out]; omega)).trans HX2.out
  have y5 : w3.cell? ⟨w.heap.size, 5, none⟩ = some (.map (some mb)) := cell_of_row w3 w.heap.size 5 _ _ _ hX3
  have yf5 := frozen_of_row w3 w.heap.size 5 _ _ hX3
  have HX3 := hid hX3
  have HM3 := hid hh.out
  clear hh hX3 b0 b1 b2 b3 b4 b5 x4 x5 xf4 xf5
  go_wp2_with fail
  go_ret
  refine ⟨_, rfl, ?_⟩
  have hb3 : Below w.heap.size w w3 := HB2.out.trans (HM3.out.2.2.mono HB2.out.size)
  have hoB := onlyB_cell w3 w.heap.size 5 (.map (some m))
  have hb4 : Below w.heap.size w (w3.setCell ⟨w.heap.size, 5, none⟩ (.map (some m))) := hoB.below hb3 (Nat.le_refl _)
  have hm1 : w1.heap.size ≤ m := by have := HM3.out.2.1; rw [HS2.out] at this; exact this
  have hOlt := Dc.DE.dq_lt HQ2.out
  rw [HS2.out] at hOlt
  have hmlt := HM3.out.1.lt
  have hOA : ∀ k, A k → k < w.heap.size := fun k hk => (H.out.lt k hk).2
  have hBw : B ≤ w.heap.size := by have := H.out.blt; omega
  refine ⟨dC, m, fun k => k = w.heap.size ∨ k = m ∨ O' k, fun k => (A k ∧ ¬ O k) ∨ (k = w.heap.size ∨ k = m ∨ O' k), O', ⟨?_, ?_, ?_, fun _ => Iff.rfl, by omega, (fun h => by have := HO'.out _ h; omega), (fun h => by have := hOlt _ h; omega), fun k hk => .inr hk, fun k hk => ?_, fun p hp => ?_⟩, fun k hk => ?_, fun k hk => ?_, hb4⟩
  · exact heap_setCell_same _ w.heap.size 5 _ _ _ HX3.out
  · have h3 : Dc.DE.Dq B w3 dC O' D := Dc.DE.dq_turn HQ2.out (fun k hk => HM3.out.2.2.block k (by rw [HS2.out]; rcases hk with hk | hk; omega; exact hOlt k hk)) HM3.out.2.2.size
    exact Dc.DE.dq_turn h3 (fun k hk => hoB.block k (by rcases hk with hk | hk; omega; have := HO'.out k hk; omega)) (Nat.le_of_eq hoB.size.symm)
  · refine HM3.out.1.keep (hoB.keep (fun h => ?_)) (fun k hk => ⟨.inl hk, ?_⟩) (hoB.block m (by omega))
    · have := hOA _ h.1; omega
    · have := hOA _ hk.1
      rintro (h | h | h)
      · omega
      · omega
      · have := HO'.out k h; omega
  · rw [hoB.size]
    rcases hk with hk | rfl | rfl | hk
    · exact ⟨(H.out.lt k hk.1).1, by have := hOA k hk.1; have := hb3.size; omega⟩
    · exact ⟨hBw, by omega⟩
    · exact ⟨by omega, hmlt⟩
    · have := hOlt k hk
      exact ⟨by have := HO'.out k hk; omega, by omega⟩
  · refine ((H.out.lies p hp).below hb4).keep (Keep.refl _ _) (fun k hk => ⟨.inl hk, ?_⟩)
    have := hOA _ hk.1
    rintro (h | h | h)
    · omega
    · omega
    · have := HO'.out k h; omega
  · rcases hk with rfl | rfl | hk
    · exact Nat.le_refl _
    · omega
    · have := HO'.out k hk; omega
  · rcases hk with hk | rfl | rfl | hk
    · exact .inl hk
    · exact .inr (Nat.le_refl _)
    · exact .inr (by omega)
    · exact .inr (by have := HO'.out k hk; omega)

end Go.Proofs.YtoecokidooaaoaaGreatDoor

namespace Go.Proofs.YtoecokidooaaoaaGreatDoor
open Go.RowKit

theorem Sp_names {D : Dc.DM E8} {f : Int → Row} {mem : Int} {L : List EP} (h : SpL D f mem L) : Dc.namesL D.L = L.map (·.1) := by
  rw [← h.ent]
  exact ofD_names h.key
theorem OwnE.push2 {B : Nat} {W : World} {v : Value} {R : List E8} (h : OwnE B W v R) (hB : B ≤ W.heap.size) (x : E8) (hl : R.length ≤ 1000000) :
    ∃ v' W', (Builtin.append_ #[24, 24] 24 #[v, .slice (some ⟨W.heap.size, 0, none⟩) 1 1]).run Tryz.prog (W.alloc (eob x)) = .ok v' W' ∧ OwnE B W' v' (R ++ [x]) ∧ Below B W W' ∧ ∀ k, k < W.heap.size → v.ownBlock ≠ some k → W'.heap[k]? = W.heap[k]? := by
  obtain ⟨i0, hi, hz0, hz1, hz2⟩ := info_parts infoE8
  have hb := below_alloc W (eob x)
  have ho := owns_below h hb
  have hnews : ∀ j u, x.cells.toList[j]? = some u → (W.alloc (eob x)).cell? ((⟨W.heap.size, 0, none⟩ : Addr).add j) = some u := fun j u hj => by
    rw [Go.WideShapes.add_plain, cell_of_row _ _ _ _ _ _ (heap_alloc_new W _)]
    simpa using hj
  have hone : ∀ u ∈ x.cells.toList, u.oneCell' = true := by
    intro u hu
    simp only [List.mem_cons, List.not_mem_nil, or_false] at hu
    rcases hu with rfl | rfl | rfl | rfl | rfl | rfl | rfl | rfl <;> rfl
  obtain ⟨v', w', hrun, ho', hgr, _⟩ := run_append_own (P := Tryz.prog) (W.alloc (eob x)) B 24 24 47 i0 (.agg #[.string ⟨#[]⟩, .int .i64 0, .string ⟨#[]⟩, .slice none 0 0, .slice none 0 0, .int .i64 0, .int .i64 0, .int .i64 0]) 8 112 Tryz.underlying24 hi hz0 hz1 hz2 rfl (by decide) _ _ _ ho ⟨W.heap.size, 0, none⟩ 1 1 x.cells.toList rfl hnews hone (by unfold maxLen; omega) (by omega) (Nat.le_trans hB hb.size)
  refine ⟨v', w', hrun, ?_, (hb.mono hB).trans ((Below.refl B _).grown hgr (Nat.le_trans hB hb.size) (fun k hk => (World.ownsRow.lt ho k hk).1)), fun k hk hne => (hgr.block k (Nat.lt_of_lt_of_le hk hb.size) (fun e => hne e.symm)).trans (hb.block k hk)⟩
  show w'.ownsRow B _ 8 v' (R ++ [x]).length (flat8 (R ++ [x]))
  rw [List.length_append, flat8_app]
  have e : flat8 [x] = x.cells.toList := by simp [flat8]
  rw [e]
  exact ho'
/-- an entry's rows are no rows of entries -/
theorem OwnEn.other {n g : Nat} {w w' : World} {y : E8} {cs : Array Value} (h : OwnEn n w y) (hg : w.heap[g]? = some (.cells cs 47 (0, 0))) (k : Keep (· ≠ g) w w') : OwnEn n w' y := by
  have hi : ∀ g' o' cs', y.ip = some ⟨g', o', none⟩ → w.heap[g']? = some (.cells cs' 9 (0, 0)) → g' ≠ g := fun g' o' cs' _ h2 e => by
    rw [e, hg] at h2
    injection h2 with h2
    injection h2 with _ h2 _
    revert h2
    decide
  have hp : ∀ g' o' cs', y.pp = some ⟨g', o', none⟩ → w.heap[g']? = some (.cells cs' 116 (0, 0)) → g' ≠ g := fun g' o' cs' _ h2 e => by
    rw [e, hg] at h2
    injection h2 with h2
    injection h2 with _ h2 _
    revert h2
    decide
  refine ⟨⟨⟨prs_keep h.vi.pairs.prs (fun hne a ha => ?_) k, h.vi.pairs.nil, h.vi.pairs.cap⟩, ⟨strs_keep h.vi.items.strs (fun hne a ha => ?_) k, h.vi.items.nil, h.vi.items.cap⟩⟩, fun hne => ?_, fun hne => ?_⟩
  · obtain ⟨g', o, cs', h1, h2, h3⟩ := h.wt.pairs (List.length_pos_iff.2 hne)
    rw [ha] at h1
    injection h1 with h1
    rw [h1]
    exact hp g' o cs' (by rw [ha, h1]) h3
  · obtain ⟨g', o, cs', h1, h2, h3⟩ := h.wt.items (List.length_pos_iff.2 hne)
    rw [ha] at h1
    injection h1 with h1
    rw [h1]
    exact hi g' o cs' (by rw [ha, h1]) h3
  · obtain ⟨g', o, cs', h1, h2, h3⟩ := h.wt.items hne
    exact ⟨g', o, cs', h1, h2, (k.block g' (Array.getElem?_eq_some_iff.1 h3).1 (hi g' o cs' h1 h3)).trans h3⟩
  · obtain ⟨g', o, cs', h1, h2, h3⟩ := h.wt.pairs hne
    exact ⟨g', o, cs', h1, h2, (k.block g' (Array.getElem?_eq_some_iff.1 h3).1 (hp g' o cs' h1 h3)).trans h3⟩
theorem OwnEn.below {n : Nat} {w w' : World} {y : E8} (h : OwnEn n w y) (hb : Below w.heap.size w w') : OwnEn n w' y := h.keep (Keep.of_below hb)
/-- a row of entries is put behind; an entry's rows stay -/
theorem OwnEn.pushed {n B : Nat} {W W' : World} {v : Value} {R : List E8} {y : E8} (h : OwnEn n W y) (hR : OwnE B W v R) (hb : Below B W W') (hB : ∀ k, k < W.heap.size → v.ownBlock ≠ some k → W'.heap[k]? = W.heap[k]?) : OwnEn n W' y := by
  rcases hR.2 with ⟨rfl, _⟩ | ⟨g, cap, cur, rfl, h2, h3, _⟩
  · exact h.below ⟨hb.os, hb.tape, hb.output, hb.size, fun k hk => hB k hk (fun e => by cases e)⟩
  · exact h.other h3 ⟨hb.os, hb.tape, hb.output, hb.size, fun k hk hne => hB k hk (fun e => by injection e with e; exact hne e.symm)⟩
/-- entries of the call's own, so far -/
structure SoFar (n : Nat) (w W : World) (v : Value) (L : List EP) : Prop where
  row : ∃ R : List E8, OwnE n W v R ∧ R.map pr8 = L ∧ ∀ x ∈ R, OwnEn n W x
  bel : Below n w W
set_option maxHeartbeats 4000000 in
set_option maxRecDepth 100000 in
/-- All -/
theorem kall_any {B : Nat} {w : World} {b d mb : Nat} {O A Od : Nat → Prop} {D : Dc.DM E8} {f : Int → Row} {room mem now soon : Int} {L : List EP} (h : SpC B w b d mb O A Od D f room mem now soon) (hL : SpL D f mem L) :
    Calls Tryz.prog 17 #[ptr b] w fun e w' => ∃ q c, e = .returned (.slice q L.length c) ∧ Hid (∃ R : List E8, Rde (fun k => w.heap.size ≤ k) w' q c R ∧ R.map pr8 = L ∧ Below w.heap.size w w') := by
  have HN := hid (Dc.DE.dq_names d Od D w h.dq hL.small2)
  rw [Sp_names hL, hL.dlen] at HN
  obtain ⟨a0, a1, a2, a3, a4, a5⟩ := h.facts
  have H := hid h
  have HL := hid hL
  have hlz : (L.length : Int) ≤ 4096 := by have := hL.len; omega
  clear h hL
  go_enter Tryz.func17, Tryz.ntmps17
  go_wp2_with fail
  refine HN.out.mono ?_; rintro e w1 ⟨q, c, rfl, hh⟩
  have HT := hid hh.out.1
  have HB1 := hid hh.out.2
  clear hh a0 a1 a2 a3 a4 a5
  go_wp2_with fail
  go_loopw [3, 14] (fun v3 v14 W => ∃ (i : Nat) (p : Option Addr) (e : Nat), v14 = .int .i64 i ∧ v3 = .slice p i e ∧ i ≤ L.length ∧ Hid (SoFar w1.heap.size w1 W (.slice p i e) (L.take i))) (fun _ v14 _ => L.length - (intOf v14).toNat)
  case atStart => exact ⟨0, none, 0, rfl, rfl, Nat.zero_le _, ⟨⟨[], World.ownsRow_nil _ _ _ _, rfl, (fun _ h => by cases h)⟩, Below.refl _ _⟩⟩
  case round =>
    obtain ⟨i, p, e, rfl, rfl, hi, HS⟩ := hrel
    by_cases hlt : i < L.length
    · have hiz : (i : Int) < (L.length : Int) := by omega
      obtain ⟨g, o, rfl, hgl, -, hcs⟩ := HT.out.cells i (by simpa using hlt)
      have x0 := hcs i (by simpa using hlt)
      rw [List.getElem_map] at x0
      replace x0 := cell_turn x0 (HS.out.bel.block g hgl)
      have hsp := H.out.below (HB1.out.trans (HS.out.bel.mono HB1.out.size))
      have HLi := hid (HL.out.good L[i] (List.getElem_mem _)).1
      have HGi := hid (getL_of HL.out.srtL (List.getElem_mem hlt) rfl)
      have HG := hid (fun W (hs : SpC B W b d mb O A Od D f room mem now soon) => kget_any hs HL.out L[i].1 (by have := HLi.out; omega))
      rw [HGi.out] at HG
      have HTk := hid (List.take_succ_eq_append_getElem hlt)
      have HSp := hid hsp
      generalize L[i] = z at *
      clear hcs hsp
      go_wp2_with fail
      refine (HG.out wr HSp.out).mono ?_; rintro e2 w2 ⟨y, rfl, hh⟩
      obtain ⟨hy1, hy2, hy3⟩ := hh.out
      obtain ⟨R, hR1, hR2, hR3⟩ := HS.out.row
      have hba := below_alloc w2 (eob y)
      have hws : w1.heap.size ≤ wr.heap.size := HS.out.bel.size
      have hRl : R.length = i := by
        have := congrArg List.length hR2
        simp at this
        omega
      obtain ⟨v', W', hrun, hO', hB', hK'⟩ := OwnE.push2 (owns_below (owns_below hR1 hy3) hba) (Nat.le_trans hws (Nat.le_trans hy3.size hba.size)) y (by omega)
      obtain ⟨p', e', hsh⟩ := hO'.shape
      rw [List.length_append, hRl, List.length_singleton] at hsh
      subst hsh
      have hsz : (w2.alloc (eob y)).heap.size = w2.heap.size + 1 := by simp
      rw [hsz] at hrun
      have HRun := hid hrun
      have HS' : Hid (SoFar w1.heap.size w1 W' (.slice p' (i + 1) e') (L.take (i + 1))) := by
        refine ⟨⟨R ++ [y], hO', by rw [List.map_append, hR2, HTk.out]; simp [hy1], fun x hx => ?_⟩, HS.out.bel.trans ((hy3.mono hws).trans ((hba.mono (Nat.le_trans hws hy3.size)).trans hB'))⟩
        refine OwnEn.pushed (R := R) ?_ (owns_below (owns_below hR1 hy3) hba) hB' hK'
        rcases List.mem_append.1 hx with hx | hx
        · exact ((hR3 x hx).below hy3).below hba
        · rw [List.mem_singleton.1 hx]
          exact (hy2.mono hws).below hba
      clear hh hy1 hy2 hy3 hR1 hR2 hR3 hba hrun hO' hB' hK' hsz
      go_wp2_with (refine wpList_append_runs rfl _ _ 24 24 rfl _ _ _ _ rfl rfl HRun.out (Hid.out ?_))
      refine hid ?_
      go_wp2_with fail
      exact ⟨⟨i + 1, p', e', by go_num, rfl, by omega, HS'.out⟩, by simp [intOf]; omega⟩
    · obtain rfl : i = L.length := by omega
      rw [List.take_length] at HS
      go_wp2_with fail
      go_ret
      refine ⟨p, e, rfl, ?_⟩
      obtain ⟨R, h1, h2, h3⟩ := HS.out.row
      exact ⟨R, h1.rde (fun k hk => Nat.le_trans HB1.out.size hk) (fun x hx => ((h3 x hx).lies).keep (Keep.refl _ _) (fun k hk => Nat.le_trans HB1.out.size hk.1)), h2, HB1.out.trans (HS.out.bel.mono HB1.out.size)⟩

end Go.Proofs.YtoecokidooaaoaaGreatDoor

namespace Go.Proofs.YtoecokidooaaoaaGreatDoor
open Go.RowKit

theorem tickL_app (T : Int) (a b : List EP) : tickL T (a ++ b) = tickL T a ++ tickL T b := by simp [tickL]
theorem tickL_all {T soon : Int} {L : List EP} (h : ∀ x ∈ L, x.2.2 = 0 ∨ soon ≤ x.2.2) (hT : T < soon) : tickL T L = L := by
  unfold tickL
  rw [List.filter_eq_self]
  intro x hx
  rcases h x hx with e | e
  · simp [e]
  · have : T < x.2.2 := by omega
    simp [this]
theorem tickL_len (T : Int) (L : List EP) : (tickL T L).length ≤ L.length := List.length_filter_le _ _
/-- one entry more is looked at -/
theorem tick_step_over {T : Int} {L : List EP} (hs : SrtL L) {i : Nat} (hi : i < L.length) (ho : 0 < L[i].2.2 ∧ L[i].2.2 ≤ T) : delL L[i].1 (tickL T (L.take i) ++ L.drop i) = tickL T (L.take (i + 1)) ++ L.drop (i + 1) := by
  have hp := List.pairwise_iff_getElem.1 hs
  have h1 : ∀ x ∈ tickL T (L.take i), x.1 ≠ L[i].1 := fun x hx e => by
    obtain ⟨j, hj, rfl⟩ := List.getElem_of_mem (List.mem_filter.1 hx).1
    rw [List.length_take] at hj
    rw [List.getElem_take] at e
    have := hp j i (by omega) hi (by omega)
    rw [e] at this
    exact nm_lt_irrefl _ this
  have h2 : ∀ x ∈ L.drop (i + 1), x.1 ≠ L[i].1 := fun x hx e => by
    obtain ⟨j, hj, rfl⟩ := List.getElem_of_mem hx
    rw [List.getElem_drop] at e
    rw [List.length_drop] at hj
    have := hp i (i + 1 + j) hi (by omega) (by omega)
    rw [e] at this
    exact nm_lt_irrefl _ this
  rw [delL_app, delL_not h1, List.drop_eq_getElem_cons hi, List.take_succ_eq_append_getElem hi, tickL_app]
  congr 1
  · have : tickL T [L[i]] = [] := by
      unfold tickL
      rw [List.filter_cons_of_neg (by simp; omega)]
      rfl
    rw [this, List.append_nil]
  · unfold delL
    rw [List.filter_cons_of_neg (by simp)]
    exact delL_not h2
theorem tick_step_on {T : Int} {L : List EP} {i : Nat} (hi : i < L.length) (ho : ¬ (0 < L[i].2.2 ∧ L[i].2.2 ≤ T)) (h0 : 0 ≤ L[i].2.2) : tickL T (L.take i) ++ L.drop i = tickL T (L.take (i + 1)) ++ L.drop (i + 1) := by
  rw [List.drop_eq_getElem_cons hi, List.take_succ_eq_append_getElem hi, tickL_app]
  have : tickL T [L[i]] = [L[i]] := by
    unfold tickL
    rw [List.filter_cons_of_pos (by simp; omega)]
    rfl
  rw [this, List.append_assoc]
  rfl
theorem Tl.stp {w w' : World} {O O' A A' : Nat → Prop} {v : Value} {l : Row} (h : Tl (Off O) w v l) (s : Stp w w' O O' A A') : Tl (Off O') w' v l := by
  rcases h with h | ⟨g, o, c, h1, h2, h3, h4, h5⟩
  · exact .inl h
  · refine .inr ⟨g, o, c, h1, h2, fun h => ?_, Nat.lt_of_lt_of_le h4 s.keep.size, fun i hi => cell_turn (h5 i hi) (s.keep.block g h4 h3)⟩
    rcases s.o g h with h | h
    · exact h3 h
    · omega
/-- while Tick goes through the names -/
def TickAt (B : Nat) (w : World) (b d mb : Nat) (O A : Nat → Prop) (room T : Int) (Li Lt : List EP) (v : Value) (nm : Row) (W : World) : Prop :=
  ∃ O' A' Od D f mem soon, SpC B W b d mb O' A' Od D f room mem T soon ∧ SpL D f mem Li ∧ (∀ x ∈ Lt, x.2.2 = 0 ∨ soon ≤ x.2.2) ∧ (0 ≤ soon ∧ soon ≤ 1099511627777) ∧ Stp w W O O' A A' ∧ Tl (Off O') W v nm
def TickPost (B : Nat) (w : World) (b d mb : Nat) (O A : Nat → Prop) (L : List EP) (room T : Int) (w' : World) : Prop :=
  ∃ O' A' Od D f mem soon, SpC B w' b d mb O' A' Od D f room mem T soon ∧ SpL D f mem (tickL T L) ∧ Live T soon (tickL T L) ∧ Stp w w' O O' A A'
set_option maxHeartbeats 4000000 in
set_option maxRecDepth 100000 in
/-- Tick, when nothing can have ended -/
theorem ktick_no {B : Nat} {w : World} {b d mb : Nat} {O A Od : Nat → Prop} {D : Dc.DM E8} {f : Int → Row} {room mem now soon : Int} {L : List EP} (h : SpC B w b d mb O A Od D f room mem now soon) (hL : SpL D f mem L) (hv : Live now soon L) (t T : Int) (hTm : max now (min t 1099511627776) = T) (hT : T < soon) :
    Calls Tryz.prog 15 #[ptr b, .int .i64 t] w fun e w' => e = .returned (.int .i64 ((L.length : Int) - ((tickL T L).length : Int))) ∧ Hid (TickPost B w b d mb O A L room T w') := by
  have htl := tickL_all (L := L) (T := T) (fun x hx => (hv.live x hx).imp id (·.2)) hT
  have hnow := hv.now
  have hsn := hv.soon
  have HPost : Hid (∀ w', SpC B w' b d mb O A Od D f room mem T soon → Stp w w' O O A A → TickPost B w b d mb O A L room T w') := fun w' k1 k2 => ⟨O, A, Od, D, f, mem, soon, k1, by rw [htl]; exact hL, by rw [htl]; exact ⟨fun x hx => (hv.live x hx).imp id (fun h => ⟨by omega, h.2⟩), by omega, hsn⟩, k2⟩
  rw [htl, Int.sub_self]
  have H2 := hid (h.setNow T)
  obtain ⟨a0, a1, a2, a3, a4, a5⟩ := h.facts
  have f2 := h.frozen 2
  have hbl := h.blt.1
  have HBd := hid (Below.refl (w.setCell ⟨b, 2, none⟩ (.int .i64 T)).heap.size (w.setCell ⟨b, 2, none⟩ (.int .i64 T))).drew
  clear h hL hv htl
  go_enter Tryz.func15, Tryz.ntmps15
  go_wp2_with fail
  go_region
  all_goals go_wp2_with fail
  all_goals go_ret
  all_goals exact ⟨rfl, HPost.out _ (H2.out.1.below HBd.out) (H2.out.2.trans (Stp.below HBd.out O A))⟩
set_option maxHeartbeats 8000000 in
set_option maxRecDepth 100000 in
/-- Tick, when all entries are looked at -/
theorem ktick_yes {B : Nat} {w : World} {b d mb : Nat} {O A Od : Nat → Prop} {D : Dc.DM E8} {f : Int → Row} {room mem now soon : Int} {L : List EP} (h : SpC B w b d mb O A Od D f room mem now soon) (hL : SpL D f mem L) (hv : Live now soon L) (t T : Int) (hTm : max now (min t 1099511627776) = T) (hT : ¬ T < soon) :
    Calls Tryz.prog 15 #[ptr b, .int .i64 t] w fun e w' => e = .returned (.int .i64 ((L.length : Int) - ((tickL T L).length : Int))) ∧ Hid (TickPost B w b d mb O A L room T w') := by
  have hnow := hv.now
  have hsn := hv.soon
  have hTz : 0 ≤ T ∧ T ≤ 1099511627776 := by omega
  obtain ⟨h2, s2⟩ := h.setNow T
  have hd2 := h2.below (Below.refl _ _).drew
  have H2 := hid hd2
  have S2 := hid (s2.trans (Stp.below (Below.refl _ (w.setCell ⟨b, 2, none⟩ (.int .i64 T))).drew O A))
  obtain ⟨a0, a1, a2, a3, a4, a5⟩ := h.facts
  have f2 := h.frozen 2
  have hbl := h.blt.1
  have HL := hid hL
  have HLn := hid (klen_any hd2)
  rw [hL.dlen] at HLn
  have hlz : (L.length : Int) ≤ 4096 := by have := hL.len; omega
  clear h h2 s2 hd2 hL hv
  go_enter Tryz.func15, Tryz.ntmps15
  go_wp2_with fail
  go_region
  go_wp2_with fail
  refine HLn.out.mono ?_; rintro e w3 ⟨rfl, hh⟩
  have h3 := H2.out.below hh.out
  have s3 := S2.out.trans (Stp.below hh.out O A)
  obtain ⟨h4, s4⟩ := h3.setSoon 1099511627777
  have H4 := hid h4
  have S4 := hid (s3.trans s4)
  obtain ⟨b0, b1, b2, b3, b4, b5⟩ := h3.facts
  have g3 := h3.frozen 3
  have hbl3 := h3.blt.1
  have HN := hid (Dc.DE.dq_names d Od D _ h4.dq HL.out.small2)
  rw [Sp_names HL.out, HL.out.dlen] at HN
  obtain ⟨c0, c1, c2, c3, c4, c5⟩ := h4.facts
  clear hh h3 s3 h4 s4 a0 a1 a2 a3 a4 a5 f2 hTm
  go_wp2_with fail
  refine HN.out.mono ?_; rintro e w5 ⟨q, cq, rfl, hh⟩
  have HT := hid hh.out.1
  have hz4 : (w3.setCell ⟨b, 3, none⟩ (.int .i64 1099511627777)).heap.size = w3.heap.size := by simp
  have H5 := hid (H4.out.below hh.out.2)
  have S5 := hid (S4.out.trans (Stp.below hh.out.2 O A))
  clear hh b0 b1 b2 b3 b4 b5 g3 c0 c1 c2 c3 c4 c5
  go_wp2_with fail
  go_loopw [40] (fun v40 W => ∃ i : Nat, v40 = .int .i64 i ∧ i ≤ L.length ∧ Hid (TickAt B w b d mb O A room T (tickL T (L.take i) ++ L.drop i) (tickL T (L.take i)) (.slice q L.length cq) (L.map (·.1)) W)) (fun v40 _ => L.length - (intOf v40).toNat)
  case atStart =>
    refine ⟨0, rfl, Nat.zero_le _, O, A, Od, D, f, mem, 1099511627777, H5.out, ?_, ?_, by omega, S5.out, ?_⟩
    · simpa [tickL] using HL.out
    · intro x hx
      simp [tickL] at hx
    · rcases HT.out with h | ⟨g, o, c, k1, k2, k3, k4, k5⟩
      · exact .inl h
      · refine .inr ⟨g, o, c, k1, k2, fun ho => ?_, k4, k5⟩
        have := (H4.out.lt g (H4.out.sub g ho)).2
        omega
  case round =>
    obtain ⟨i, rfl, hi, HA⟩ := hrel
    obtain ⟨O6, A6, Od6, D6, f6, mem6, soon6, h6, l6, v6, n6, s6, t6⟩ := HA.out
    by_cases hlt : i < L.length
    · have hiz : (i : Int) < (L.length : Int) := by omega
      obtain ⟨g, o, rfl, hgl, -, hcs⟩ := t6.cells i (by simpa using hlt)
      have x0 := hcs i (by simpa using hlt)
      rw [List.getElem_map] at x0
      have hmem : L[i] ∈ tickL T (L.take i) ++ L.drop i := List.mem_append_right _ (by rw [List.drop_eq_getElem_cons hlt]; exact List.mem_cons_self)
      have hgd := HL.out.good L[i] (List.getElem_mem _)
      have hg6 := getL_of l6.srtL hmem rfl
      obtain ⟨g1, g2, g2c, gk, g3, g4⟩ := h6.at l6 L[i].1
      rw [hg6] at g3 g4
      have HG := hid (Dc.DE.dq_get d Od6 D6 L[i].1 wr h6.dq l6.small2 (by omega))
      rw [g4] at HG
      obtain ⟨y, hy⟩ : ∃ y, y = (Dc.getL L[i].1 D6.L).getD Dc.DE.e80 := ⟨_, rfl⟩
      rw [← hy] at g3 HG
      obtain ⟨a0, a1, a2, a3, a4, a5⟩ := h6.facts
      have hbl6 := h6.blt.1
      have H6 := hid h6
      have L6 := hid l6
      have V6 := hid v6
      have N6 := hid n6
      have S6 := hid s6
      have T6 := hid t6
      have hye : y.ends = L[i].2.2 := congrArg (fun z : EP => z.2.2) g3
      have HYe := hid hye
      have HGd := hid hgd
      have HLt := hid hlt
      have HKn := hid (show L[i].1.length ≤ 140737488351232 by have := hgd.1; omega)
      generalize hz : L[i] = z at *
      have HZ := hid hz.symm
      clear hcs hmem hgd hg6 g1 g2 g2c gk g3 g4 hy h6 l6 v6 n6 s6 t6 HA hye hz
      go_wp2_with fail
      refine HG.out.mono ?_; rintro e w7 ⟨rfl, hh⟩
      have hba := below_alloc w7 (eob y)
      have hb8 := hh.out.trans (hba.mono hh.out.size)
      have h8 := H6.out.below hb8
      have H8 := hid h8
      have S8 := hid (S6.out.trans (Stp.below hb8 O6 A6))
      have T8 := hid (T6.out.stp (Stp.below hb8 O6 A6))
      have HE := hid (kended_any h8 y)
      obtain ⟨y0, y1, y2, y3, y4, y5, y6, y7⟩ := ent_facts (ent_new w7 y)
      have HY8 := hid (ent_new w7 y)
      have hz8 : (w7.alloc (eob y)).heap.size = w7.heap.size + 1 := by simp
      have HZ8 := hid hz8
      rw [HYe.out] at HE
      clear hh hba hb8 h8 a0 a1 a2 a3 a4 a5 hz8
      by_cases hov : 0 < z.2.2 ∧ z.2.2 ≤ T
      · rw [decide_eq_true hov] at HE
        have HSt : Hid (delL z.1 (tickL T (L.take i) ++ L.drop i) = tickL T (L.take (i + 1)) ++ L.drop (i + 1)) := by
          have e := HZ.out
          unfold Hid
          clear HZ
          subst e
          exact tick_step_over HL.out.srtL HLt.out hov
        have HTt : Hid (tickL T (L.take (i + 1)) = tickL T (L.take i)) := by
          have e := HZ.out
          unfold Hid
          clear HZ
          subst e
          rw [List.take_succ_eq_append_getElem HLt.out, tickL_app]
          refine (congrArg (fun l => tickL T (L.take i) ++ l) (?_ : tickL T [L[i]] = [])).trans (List.append_nil _)
          unfold tickL
          rw [List.filter_cons_of_neg (by simp; omega)]
          rfl
        clear hov
        go_wp2_with fail
        refine HE.out.mono ?_; rintro e w9 ⟨rfl, hh⟩
        have h9 := H8.out.below hh.out
        have HDl := hid (kdel_any h9 L6.out z.1 HKn.out)
        have S9 := hid (S8.out.trans (Stp.below hh.out O6 A6))
        have T9 := hid (T8.out.stp (Stp.below hh.out O6 A6))
        clear hh h9 y0 y1 y2 y3 y4 y5 y6 y7
        go_wp2_with fail
        refine HDl.out.mono ?_; rintro e w10 ⟨rfl, hh⟩
        obtain ⟨O10, A10, Od10, D10, f10, mem10, h10, l10, s10⟩ := hh.out
        have HF : Hid (TickAt B w b d mb O A room T (tickL T (L.take (i + 1)) ++ L.drop (i + 1)) (tickL T (L.take (i + 1))) (.slice (some ⟨g, o, none⟩) L.length cq) (L.map (·.1)) w10) := by
          refine ⟨O10, A10, Od10, D10, f10, mem10, soon6, h10, ?_, ?_, N6.out, S9.out.trans s10, T9.out.stp s10⟩
          · rw [← HSt.out]; exact l10
          · rw [HTt.out]; exact V6.out
        clear hh h10 l10 s10
        go_wp2_with fail
        exact ⟨⟨i + 1, by go_num, by omega, HF.out⟩, by simp [intOf]; omega⟩
      · rw [decide_eq_false hov] at HE
        have HSt : Hid (tickL T (L.take i) ++ L.drop i = tickL T (L.take (i + 1)) ++ L.drop (i + 1)) := by
          have e := HZ.out
          unfold Hid
          have hg := HGd.out.2.2.1
          clear HZ
          subst e
          exact tick_step_on HLt.out hov hg
        have HTt : Hid (tickL T (L.take (i + 1)) = tickL T (L.take i) ++ [z]) := by
          have e := HZ.out
          unfold Hid
          have hg := HGd.out.2.2.1
          clear HZ
          subst e
          rw [List.take_succ_eq_append_getElem HLt.out, tickL_app]
          refine congrArg (fun l => tickL T (L.take i) ++ l) (?_ : tickL T [L[i]] = [L[i]])
          unfold tickL
          rw [List.filter_cons_of_pos (by simp; omega)]
          rfl
        have HOv := hid hov
        clear hov
        go_wp2_with fail
        refine HE.out.mono ?_; rintro e w9 ⟨rfl, hh⟩
        have h9 := H8.out.below hh.out
        have HX := hid (kexpect_any h9 y)
        have S9 := hid (S8.out.trans (Stp.below hh.out O6 A6))
        have T9 := hid (T8.out.stp (Stp.below hh.out O6 A6))
        have hY9 := (hh.out.block w7.heap.size (by have := HZ8.out; omega)).trans HY8.out
        obtain ⟨k0, k1, k2, k3, k4, k5, k6, k7⟩ := ent_facts hY9
        clear hh h9 y0 y1 y2 y3 y4 y5 y6 y7 hY9
        go_wp2_with fail
        refine HX.out.mono ?_; rintro e w10 ⟨rfl, hh⟩
        have HF : Hid (TickAt B w b d mb O A room T (tickL T (L.take (i + 1)) ++ L.drop (i + 1)) (tickL T (L.take (i + 1))) (.slice (some ⟨g, o, none⟩) L.length cq) (L.map (·.1)) w10) := by
          refine ⟨O6, A6, Od6, D6, f6, mem6, _, hh.out.1, ?_, ?_, ?_, S9.out.trans hh.out.2, T9.out.stp hh.out.2⟩
          · rw [← HSt.out]; exact L6.out
          · rw [HTt.out]
            intro x hx
            rcases List.mem_append.1 hx with hx | hx
            · refine (V6.out x hx).imp id (fun h => ?_)
              split
              · omega
              · exact h
            · rw [List.mem_singleton.1 hx]
              by_cases h0 : z.2.2 = 0
              · exact .inl h0
              · refine .inr ?_
                have := HGd.out.2.2.1
                rw [HYe.out, if_pos (by omega)]
                omega
          · have := N6.out
            split
            · rename_i hp
              rw [HYe.out] at hp ⊢
              have := HGd.out.2.2.2
              omega
            · exact this
        clear hh k0 k1 k2 k3 k4 k5 k6 k7
        go_wp2_with fail
        exact ⟨⟨i + 1, by go_num, by omega, HF.out⟩, by simp [intOf]; omega⟩
    · obtain rfl : i = L.length := by omega
      rw [List.take_length, List.drop_length, List.append_nil] at l6
      rw [List.take_length] at v6
      have HLn6 := hid (klen_any h6)
      rw [l6.dlen] at HLn6
      have hle := tickL_len T L
      have HPost : Hid (∀ w', Below wr.heap.size wr w' → TickPost B w b d mb O A L room T w') := fun w' hb => by
        refine ⟨O6, A6, Od6, D6, f6, mem6, soon6, h6.below hb, l6, ⟨fun x hx => ?_, hTz, n6⟩, s6.trans (Stp.below hb O6 A6)⟩
        have h2 := (List.mem_filter.1 hx).2
        simp only [Bool.or_eq_true, beq_iff_eq, decide_eq_true_eq] at h2
        rcases h2 with e | e
        · exact .inl e
        · exact (v6 x hx).imp id (fun h => ⟨e, h⟩)
      have hlez : ((tickL T L).length : Int) ≤ (L.length : Int) := by omega
      have hM0 : (0 : Int) ≤ ((tickL T L).length : Int) := by omega
      clear h6 l6 v6 n6 s6 t6 HA hle
      generalize hM : ((tickL T L).length : Int) = M at *
      have HM := hid hM
      clear hM
      go_wp2_with fail
      refine HLn6.out.mono ?_; rintro e w7 ⟨rfl, hh⟩
      have HP := hid (HPost.out w7 hh.out)
      clear hh
      go_wp2_with fail
      go_ret
      exact ⟨by rw [HM.out]; rfl, HP⟩

end Go.Proofs.YtoecokidooaaoaaGreatDoor
