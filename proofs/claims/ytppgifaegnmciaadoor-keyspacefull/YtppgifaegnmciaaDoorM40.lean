/- KS6, KS8, KS7, KS9. -/
import Derived.Test.YtppgifaegnmciaaDoorM33
import Derived.Shelf.SlMaps.Clone
namespace Go.Proofs.YtppgifaegnmciaaDoor
open Go.RowKit

set_option maxHeartbeats 1000000 in
set_option maxRecDepth 100000 in
/-- the first texts of a row, put behind nothing -/
theorem take_run (p : Option Addr) (c k : Nat) (l : Row) (w : World) (h : Rd w p c l) (hk : k ≤ l.length) (hl : l.length ≤ 10000) :
    ∃ q d W', (Builtin.append_ #[30, 30] 30 #[.slice none 0 0, .slice p k c]).run Tryd.prog w = .ok (.slice q k d) W' ∧ Own w.heap.size W' (.slice q k d) (l.take k) ∧ Below w.heap.size w W' := by
  obtain ⟨i0, hi, hz0, hz1, hz2⟩ := info_parts infoS
  have ho : Own w.heap.size w (.slice none 0 0) [] := World.ownsRow_nil _ _ _ _
  have hlen : (l.take k).length = k := by rw [List.length_take]; omega
  cases p with
  | none =>
    have hl0 : l = [] := by
      cases l with
      | nil => rfl
      | cons x r =>
        obtain ⟨b, o, e, _⟩ := h.strs (by simp)
        cases e
    have hc := h.nil rfl
    subst hl0 hc
    have hk0 : k = 0 := by simpa using hk
    subst hk0
    exact ⟨none, 0, w, append_none ho, by simpa using ho, Below.refl _ _⟩
  | some a =>
    obtain ⟨v', W', hrun, ho', hgr, _⟩ := run_append_own (P := Tryd.prog) w w.heap.size 30 30 9 i0 (.string ⟨#[]⟩) 1 16 Tryd.underlying30 hi hz0 hz1 hz2 rfl (by decide) _ _ _ ho a k c ((l.take k).map txt) (by simp; omega)
      (fun j u' hj => by
        rw [List.getElem?_map] at hj
        cases hm : (l.take k)[j]? with
        | none => rw [hm] at hj; cases hj
        | some x =>
          rw [hm] at hj
          obtain ⟨hjl, e⟩ := List.getElem?_eq_some_iff.1 hm
          rw [hlen] at hjl
          obtain ⟨g, off, e2, hc⟩ := h.strs (fun e => by rw [e] at hk; simp at hk; omega)
          injection e2 with e2
          subst e2
          rw [Go.WideShapes.add_plain, ← hj, ← e, List.getElem_take]
          exact hc j (by omega))
      (fun u' hu' => by
        obtain ⟨x, _, rfl⟩ := List.mem_map.1 hu'
        rfl) (by unfold maxLen; simp; omega) (by simp; omega) (Nat.le_refl _)
    have ho2 : Own w.heap.size W' v' (l.take k) := by
      show W'.ownsRow _ _ 1 v' (l.take k).length _
      rw [hlen]
      simpa using ho'
    obtain ⟨q, d, hsh, -⟩ := ho2.shape
    rw [hlen] at hsh
    subst hsh
    exact ⟨q, d, W', hrun, ho2, (Below.refl _ w).grown hgr (Nat.le_refl _) (fun k hk => by cases hk)⟩
/-- a space without keys -/
theorem new_sp {B : Nat} {w w1 : World} {d : Nat} {room : Int} (h : ∃ O, Dc.DE.Dq B w1 d O Dc.newD ∧ (∀ k, O k → w.heap.size ≤ k) ∧ Below w.heap.size w w1) :
    ∃ O A, Sp B ((w1.alloc (.map #[] 0)).alloc (.cells #[.int .i64 room, .int .i64 0, .int .i64 0, .int .i64 1099511627777, ptr d, .map (some w1.heap.size)] 47)) (w1.heap.size + 1) O A [] room 0 ∧ (∀ k, A k → w.heap.size ≤ k) ∧ Below w.heap.size w ((w1.alloc (.map #[] 0)).alloc (.cells #[.int .i64 room, .int .i64 0, .int .i64 0, .int .i64 1099511627777, ptr d, .map (some w1.heap.size)] 47)) := by
  obtain ⟨Od, hq, ho, hb⟩ := h
  have hb2 : Below w1.heap.size w1 ((w1.alloc (.map #[] 0)).alloc (.cells #[.int .i64 room, .int .i64 0, .int .i64 0, .int .i64 1099511627777, ptr d, .map (some w1.heap.size)] 47)) := (below_alloc w1 _).alloc (by simp) _
  have hlt := Dc.DE.dq_lt hq
  have hBs := Dc.DE.dq_base hq
  have hs := hb.size
  have hz : ((w1.alloc (.map #[] 0)).alloc (.cells #[.int .i64 room, .int .i64 0, .int .i64 0, .int .i64 1099511627777, ptr d, .map (some w1.heap.size)] 47)).heap.size = w1.heap.size + 2 := by simp
  have hmap : ((w1.alloc (.map #[] 0)).alloc (.cells #[.int .i64 room, .int .i64 0, .int .i64 0, .int .i64 1099511627777, ptr d, .map (some w1.heap.size)] 47)).heap[w1.heap.size]? = some (.map #[] 0) := (heap_alloc_old _ _ (by simp)).trans (heap_alloc_new w1 _)
  refine ⟨fun k => k = w1.heap.size + 1 ∨ k = w1.heap.size ∨ Od k, fun k => k = w1.heap.size + 1 ∨ k = w1.heap.size ∨ Od k, ⟨d, w1.heap.size, Od, Dc.newD, fun _ => [], 0, 1099511627777, ⟨?_, ?_, ?_, fun _ => Iff.rfl, by omega, (fun h => by have := hlt _ h; omega), (fun h => by have := hlt _ h; omega), fun _ h => h, fun k hk => ?_, (fun p hp => by cases hp)⟩, ⟨rfl, (fun p hp => by cases hp), Dc.Srt.nil, fun _ => rfl, rfl, (fun x hx => by cases hx), by simp, Dc.Small.new.mono (by omega)⟩, ⟨(fun x hx => by cases hx), by omega, by omega⟩⟩, fun k hk => ?_, hb.trans (hb2.mono hs)⟩
  · have := heap_alloc_new (w1.alloc (.map #[] 0)) (.cells #[.int .i64 room, .int .i64 0, .int .i64 0, .int .i64 1099511627777, ptr d, .map (some w1.heap.size)] 47)
    rwa [show (w1.alloc (.map #[] 0)).heap.size = w1.heap.size + 1 by simp] at this
  · exact Dc.DE.dq_turn hq (fun k hk => hb2.block k (by rcases hk with hk | hk; omega; exact hlt k hk)) hb2.size
  · exact ⟨#[], 0, hmap, (fun e he => by simp at he), (fun n hn => absurd rfl hn), by simp⟩
  · rw [hz]
    rcases hk with rfl | rfl | hk
    · omega
    · omega
    · have := hlt k hk
      have := dq_ge hq k hk
      omega
  · rcases hk with rfl | rfl | hk
    · omega
    · omega
    · exact ho k hk
set_option maxHeartbeats 2000000 in
set_option maxRecDepth 100000 in
/-- New -/
theorem knew_any {B : Nat} (hB0 : 0 < B) (w : World) (hV : Tab w) (hB : B ≤ w.heap.size) (room : Int) :
    Calls Tryd.prog 5 #[.int .i64 room] w fun e w' => ∃ b, e = .returned (ptr b) ∧ Hid (∃ O A, Sp B w' b O A [] room 0 ∧ (∀ k, A k → w.heap.size ≤ k) ∧ Below w.heap.size w w') := by
  have hmm := @run_makeMap Tryd.prog
  have HN := hid (Dc.DE.dq_new hB0 w hV hB)
  clear hV
  go_enter Tryd.func5, Tryd.ntmps5
  go_wp2_with fail
  refine HN.out.mono ?_; rintro e w1 ⟨d, rfl, hh⟩
  have H1 := hid hh.out
  clear hh
  go_wp2_with fail
  go_ret
  refine ⟨_, rfl, ?_⟩
  exact new_sp H1.out
end Go.Proofs.YtppgifaegnmciaaDoor

namespace Go.Proofs.YtppgifaegnmciaaDoor
open Go.RowKit

end Go.Proofs.YtppgifaegnmciaaDoor

namespace Go.Proofs.YtppgifaegnmciaaDoor
open Go.RowKit

theorem Sp_names {D : Dc.DM E8} {f : Int → Row} {mem : Int} {L : List EP} (h : SpL D f mem L) : Dc.namesL D.L = L.map (·.1) := by
  rw [← h.ent]
  exact ofD_names h.key
theorem OwnE.push2 {B : Nat} {W : World} {v : Value} {R : List E8} (h : OwnE B W v R) (hB : B ≤ W.heap.size) (x : E8) (hl : R.length ≤ 1000000) :
    ∃ v' W', (Builtin.append_ #[39, 39] 39 #[v, .slice (some ⟨W.heap.size, 0, none⟩) 1 1]).run Tryd.prog (W.alloc (eob x)) = .ok v' W' ∧ OwnE B W' v' (R ++ [x]) ∧ Below B W W' ∧ ∀ k, k < W.heap.size → v.ownBlock ≠ some k → W'.heap[k]? = W.heap[k]? := by
  obtain ⟨i0, hi, hz0, hz1, hz2⟩ := info_parts infoE8
  have hb := below_alloc W (eob x)
  have ho := owns_below h hb
  have hnews : ∀ j u, x.cells.toList[j]? = some u → (W.alloc (eob x)).cell? ((⟨W.heap.size, 0, none⟩ : Addr).add j) = some u := fun j u hj => by
    rw [Go.WideShapes.add_plain, cell_of_row _ _ _ _ _ _ (heap_alloc_new W _)]
    simpa using hj
  have hone : ∀ u ∈ x.cells.toList, u.oneCell' = true := by
    intro u hu
    simp only [List.mem_cons, List.not_mem_nil, or_false] at hu
    rcases hu with rfl | rfl | rfl | rfl | rfl | rfl | rfl | rfl <;> rfl
  obtain ⟨v', w', hrun, ho', hgr, _⟩ := run_append_own (P := Tryd.prog) (W.alloc (eob x)) B 39 39 36 i0 (.agg #[.string ⟨#[]⟩, .int .i64 0, .string ⟨#[]⟩, .slice none 0 0, .slice none 0 0, .int .i64 0, .int .i64 0, .int .i64 0]) 8 112 Tryd.underlying39 hi hz0 hz1 hz2 rfl (by decide) _ _ _ ho ⟨W.heap.size, 0, none⟩ 1 1 x.cells.toList rfl hnews hone (by unfold maxLen; omega) (by omega) (Nat.le_trans hB hb.size)
  refine ⟨v', w', hrun, ?_, (hb.mono hB).trans ((Below.refl B _).grown hgr (Nat.le_trans hB hb.size) (fun k hk => (World.ownsRow.lt ho k hk).1)), fun k hk hne => (hgr.block k (Nat.lt_of_lt_of_le hk hb.size) (fun e => hne e.symm)).trans (hb.block k hk)⟩
  show w'.ownsRow B _ 8 v' (R ++ [x]).length (flat8 (R ++ [x]))
  rw [List.length_append, flat8_app]
  have e : flat8 [x] = x.cells.toList := by simp [flat8]
  rw [e]
  exact ho'
/-- an entry's rows are no rows of entries -/
theorem OwnEn.other {n g : Nat} {w w' : World} {y : E8} {cs : Array Value} (h : OwnEn n w y) (hg : w.heap[g]? = some (.cells cs 36 (0, 0))) (k : Keep (· ≠ g) w w') : OwnEn n w' y := by
  have hi : ∀ g' o' cs', y.ip = some ⟨g', o', none⟩ → w.heap[g']? = some (.cells cs' 9 (0, 0)) → g' ≠ g := fun g' o' cs' _ h2 e => by
    rw [e, hg] at h2
    injection h2 with h2
    injection h2 with _ h2 _
    revert h2
    decide
  have hp : ∀ g' o' cs', y.pp = some ⟨g', o', none⟩ → w.heap[g']? = some (.cells cs' 83 (0, 0)) → g' ≠ g := fun g' o' cs' _ h2 e => by
    rw [e, hg] at h2
    injection h2 with h2
    injection h2 with _ h2 _
    revert h2
    decide
  refine ⟨⟨⟨prs_keep h.vi.pairs.prs (fun hne a ha => ?_) k, h.vi.pairs.nil, h.vi.pairs.cap⟩, ⟨strs_keep h.vi.items.strs (fun hne a ha => ?_) k, h.vi.items.nil, h.vi.items.cap⟩⟩, fun hne => ?_, fun hne => ?_⟩
  · obtain ⟨g', o, cs', h1, h2, h3⟩ := h.wt.pairs (List.length_pos_iff.2 hne)
    rw [ha] at h1
    injection h1 with h1
    rw [h1]
    exact hp g' o cs' (by rw [ha, h1]) h3
  · obtain ⟨g', o, cs', h1, h2, h3⟩ := h.wt.items (List.length_pos_iff.2 hne)
    rw [ha] at h1
    injection h1 with h1
    rw [h1]
    exact hi g' o cs' (by rw [ha, h1]) h3
  · obtain ⟨g', o, cs', h1, h2, h3⟩ := h.wt.items hne
    exact ⟨g', o, cs', h1, h2, (k.block g' (Array.getElem?_eq_some_iff.1 h3).1 (hi g' o cs' h1 h3)).trans h3⟩
  · obtain ⟨g', o, cs', h1, h2, h3⟩ := h.wt.pairs hne
    exact ⟨g', o, cs', h1, h2, (k.block g' (Array.getElem?_eq_some_iff.1 h3).1 (hp g' o cs' h1 h3)).trans h3⟩
theorem OwnEn.below {n : Nat} {w w' : World} {y : E8} (h : OwnEn n w y) (hb : Below w.heap.size w w') : OwnEn n w' y := h.keep (Keep.of_below hb)
/-- a row of entries is put behind; an entry's rows stay -/
theorem OwnEn.pushed {n B : Nat} {W W' : World} {v : Value} {R : List E8} {y : E8} (h : OwnEn n W y) (hR : OwnE B W v R) (hb : Below B W W') (hB : ∀ k, k < W.heap.size → v.ownBlock ≠ some k → W'.heap[k]? = W.heap[k]?) : OwnEn n W' y := by
  rcases hR.2 with ⟨rfl, _⟩ | ⟨g, cap, cur, rfl, h2, h3, _⟩
  · exact h.below ⟨hb.os, hb.tape, hb.output, hb.size, fun k hk => hB k hk (fun e => by cases e)⟩
  · exact h.other h3 ⟨hb.os, hb.tape, hb.output, hb.size, fun k hk hne => hB k hk (fun e => by injection e with e; exact hne e.symm)⟩
/-- entries of the call's own, so far -/
structure SoFar (n : Nat) (w W : World) (v : Value) (L : List EP) : Prop where
  row : ∃ R : List E8, OwnE n W v R ∧ R.map pr8 = L ∧ ∀ x ∈ R, OwnEn n W x
  bel : Below n w W
set_option maxHeartbeats 4000000 in
set_option maxRecDepth 100000 in
/-- All -/
theorem kall_any {B : Nat} {w : World} {b d mb : Nat} {O A Od : Nat → Prop} {D : Dc.DM E8} {f : Int → Row} {room mem now soon : Int} {L : List EP} (h : SpC B w b d mb O A Od D f room mem now soon) (hL : SpL D f mem L) :
    Calls Tryd.prog 10 #[ptr b] w fun e w' => ∃ q c, e = .returned (.slice q L.length c) ∧ Hid (∃ R : List E8, Rde (fun k => w.heap.size ≤ k) w' q c R ∧ R.map pr8 = L ∧ Below w.heap.size w w') := by
  have HN := hid (Dc.DE.dq_names d Od D w h.dq hL.small2)
  rw [Sp_names hL, hL.dlen] at HN
  obtain ⟨a0, a1, a2, a3, a4, a5⟩ := h.facts
  have H := hid h
  have HL := hid hL
  have hlz : (L.length : Int) ≤ 4096 := by have := hL.len; omega
  clear h hL
  go_enter Tryd.func10, Tryd.ntmps10
  go_wp2_with fail
  refine HN.out.mono ?_; rintro e w1 ⟨q, c, rfl, hh⟩
  have HT := hid hh.out.1
  have HB1 := hid hh.out.2
  clear hh a0 a1 a2 a3 a4 a5
  go_wp2_with fail
  go_loopw [3, 14] (fun v3 v14 W => ∃ (i : Nat) (p : Option Addr) (e : Nat), v14 = .int .i64 i ∧ v3 = .slice p i e ∧ i ≤ L.length ∧ Hid (SoFar w1.heap.size w1 W (.slice p i e) (L.take i))) (fun _ v14 _ => L.length - (intOf v14).toNat)
  case atStart => exact ⟨0, none, 0, rfl, rfl, Nat.zero_le _, ⟨⟨[], World.ownsRow_nil _ _ _ _, rfl, (fun _ h => by cases h)⟩, Below.refl _ _⟩⟩
  case round =>
    obtain ⟨i, p, e, rfl, rfl, hi, HS⟩ := hrel
    by_cases hlt : i < L.length
    · have hiz : (i : Int) < (L.length : Int) := by omega
      obtain ⟨g, o, rfl, hgl, -, hcs⟩ := HT.out.cells i (by simpa using hlt)
      have x0 := hcs i (by simpa using hlt)
      rw [List.getElem_map] at x0
      replace x0 := cell_turn x0 (HS.out.bel.block g hgl)
      have hsp := H.out.below (HB1.out.trans (HS.out.bel.mono HB1.out.size))
      have HLi := hid (HL.out.good L[i] (List.getElem_mem _)).1
      have HGi := hid (getL_of HL.out.srtL (List.getElem_mem hlt) rfl)
      have HG := hid (fun W (hs : SpC B W b d mb O A Od D f room mem now soon) => kget_any hs HL.out L[i].1 (by have := HLi.out; omega))
      rw [HGi.out] at HG
      have HTk := hid (List.take_succ_eq_append_getElem hlt)
      have HSp := hid hsp
      generalize L[i] = z at *
      clear hcs hsp
      go_wp2_with fail
      refine (HG.out wr HSp.out).mono ?_; rintro e2 w2 ⟨y, rfl, hh⟩
      obtain ⟨hy1, hy2, hy3⟩ := hh.out
      obtain ⟨R, hR1, hR2, hR3⟩ := HS.out.row
      have hba := below_alloc w2 (eob y)
      have hws : w1.heap.size ≤ wr.heap.size := HS.out.bel.size
      have hRl : R.length = i := by
        have := congrArg List.length hR2
        simp at this
        omega
      obtain ⟨v', W', hrun, hO', hB', hK'⟩ := OwnE.push2 (owns_below (owns_below hR1 hy3) hba) (Nat.le_trans hws (Nat.le_trans hy3.size hba.size)) y (by omega)
      obtain ⟨p', e', hsh⟩ := hO'.shape
      rw [List.length_append, hRl, List.length_singleton] at hsh
      subst hsh
      have hsz : (w2.alloc (eob y)).heap.size = w2.heap.size + 1 := by simp
      rw [hsz] at hrun
      have HRun := hid hrun
      have HS' : Hid (SoFar w1.heap.size w1 W' (.slice p' (i + 1) e') (L.take (i + 1))) := by
        refine ⟨⟨R ++ [y], hO', by rw [List.map_append, hR2, HTk.out]; simp [hy1], fun x hx => ?_⟩, HS.out.bel.trans ((hy3.mono hws).trans ((hba.mono (Nat.le_trans hws hy3.size)).trans hB'))⟩
        refine OwnEn.pushed (R := R) ?_ (owns_below (owns_below hR1 hy3) hba) hB' hK'
        rcases List.mem_append.1 hx with hx | hx
        · exact ((hR3 x hx).below hy3).below hba
        · rw [List.mem_singleton.1 hx]
          exact (hy2.mono hws).below hba
      clear hh hy1 hy2 hy3 hR1 hR2 hR3 hba hrun hO' hB' hK' hsz
      go_wp2_with (refine wpList_append_runs rfl _ _ 39 39 rfl _ _ _ _ rfl rfl HRun.out (Hid.out ?_))
      refine hid ?_
      go_wp2_with fail
      exact ⟨⟨i + 1, p', e', by go_num, rfl, by omega, HS'.out⟩, by simp [intOf]; omega⟩
    · obtain rfl : i = L.length := by omega
      rw [List.take_length] at HS
      go_wp2_with fail
      go_ret
      refine ⟨p, e, rfl, ?_⟩
      obtain ⟨R, h1, h2, h3⟩ := HS.out.row
      exact ⟨R, h1.rde (fun k hk => Nat.le_trans HB1.out.size hk) (fun x hx => ((h3 x hx).lies).keep (Keep.refl _ _) (fun k hk => Nat.le_trans HB1.out.size hk.1)), h2, HB1.out.trans (HS.out.bel.mono HB1.out.size)⟩

end Go.Proofs.YtppgifaegnmciaaDoor

namespace Go.Proofs.YtppgifaegnmciaaDoor
open Go.RowKit

theorem tickL_app (T : Int) (a b : List EP) : tickL T (a ++ b) = tickL T a ++ tickL T b := by simp [tickL]
theorem tickL_all {T soon : Int} {L : List EP} (h : ∀ x ∈ L, x.2.2 = 0 ∨ soon ≤ x.2.2) (hT : T < soon) : tickL T L = L := by
  unfold tickL
  rw [List.filter_eq_self]
  intro x hx
  rcases h x hx with e | e
  · simp [e]
  · have : T < x.2.2 := by omega
    simp [this]
theorem tickL_len (T : Int) (L : List EP) : (tickL T L).length ≤ L.length := List.length_filter_le _ _
/-- one entry more is looked at -/
theorem tick_step_over {T : Int} {L : List EP} (hs : SrtL L) {i : Nat} (hi : i < L.length) (ho : 0 < L[i].2.2 ∧ L[i].2.2 ≤ T) : delL L[i].1 (tickL T (L.take i) ++ L.drop i) = tickL T (L.take (i + 1)) ++ L.drop (i + 1) := by
  have hp := List.pairwise_iff_getElem.1 hs
  have h1 : ∀ x ∈ tickL T (L.take i), x.1 ≠ L[i].1 := fun x hx e => by
    obtain ⟨j, hj, rfl⟩ := List.getElem_of_mem (List.mem_filter.1 hx).1
    rw [List.length_take] at hj
    rw [List.getElem_take] at e
    have := hp j i (by omega) hi (by omega)
    rw [e] at this
    exact nm_lt_irrefl _ this
  have h2 : ∀ x ∈ L.drop (i + 1), x.1 ≠ L[i].1 := fun x hx e => by
    obtain ⟨j, hj, rfl⟩ := List.getElem_of_mem hx
    rw [List.getElem_drop] at e
    rw [List.length_drop] at hj
    have := hp i (i + 1 + j) hi (by omega) (by omega)
    rw [e] at this
    exact nm_lt_irrefl _ this
  rw [delL_app, delL_not h1, List.drop_eq_getElem_cons hi, List.take_succ_eq_append_getElem hi, tickL_app]
  congr 1
  · have : tickL T [L[i]] = [] := by
      unfold tickL
      rw [List.filter_cons_of_neg (by simp; omega)]
      rfl
    rw [this, List.append_nil]
  · unfold delL
    rw [List.filter_cons_of_neg (by simp)]
    exact delL_not h2
theorem tick_step_on {T : Int} {L : List EP} {i : Nat} (hi : i < L.length) (ho : ¬ (0 < L[i].2.2 ∧ L[i].2.2 ≤ T)) (h0 : 0 ≤ L[i].2.2) : tickL T (L.take i) ++ L.drop i = tickL T (L.take (i + 1)) ++ L.drop (i + 1) := by
  rw [List.drop_eq_getElem_cons hi, List.take_succ_eq_append_getElem hi, tickL_app]
  have : tickL T [L[i]] = [L[i]] := by
    unfold tickL
    rw [List.filter_cons_of_pos (by simp; omega)]
    rfl
  rw [this, List.append_assoc]
  rfl
theorem Tl.stp {w w' : World} {O O' A A' : Nat → Prop} {v : Value} {l : Row} (h : Tl (Off O) w v l) (s : Stp w w' O O' A A') : Tl (Off O') w' v l := by
  rcases h with h | ⟨g, o, c, h1, h2, h3, h4, h5⟩
  · exact .inl h
  · refine .inr ⟨g, o, c, h1, h2, fun h => ?_, Nat.lt_of_lt_of_le h4 s.keep.size, fun i hi => cell_turn (h5 i hi) (s.keep.block g h4 h3)⟩
    rcases s.o g h with h | h
    · exact h3 h
    · omega
/-- while Tick goes through the names -/
def TickAt (B : Nat) (w : World) (b d mb : Nat) (O A : Nat → Prop) (room T : Int) (Li Lt : List EP) (v : Value) (nm : Row) (W : World) : Prop :=
  ∃ O' A' Od D f mem soon, SpC B W b d mb O' A' Od D f room mem T soon ∧ SpL D f mem Li ∧ (∀ x ∈ Lt, x.2.2 = 0 ∨ soon ≤ x.2.2) ∧ (0 ≤ soon ∧ soon ≤ 1099511627777) ∧ Stp w W O O' A A' ∧ Tl (Off O') W v nm
def TickPost (B : Nat) (w : World) (b d mb : Nat) (O A : Nat → Prop) (L : List EP) (room T : Int) (w' : World) : Prop :=
  ∃ O' A' Od D f mem soon, SpC B w' b d mb O' A' Od D f room mem T soon ∧ SpL D f mem (tickL T L) ∧ Live T soon (tickL T L) ∧ Stp w w' O O' A A'
end Go.Proofs.YtppgifaegnmciaaDoor
