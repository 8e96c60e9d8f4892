/- KS6, KS8, KS7, KS9, XC. -/
import Derived.Test.YtcbncdigejjcpaaGreatDoorM34
import Derived.Shelf.SlMaps.Clone
import Derived.Deep.RegionHeld3
import Derived.Test.YtcbncdigejjcpaaGreatDoorM23
namespace Go.Proofs.YtcbncdigejjcpaaGreatDoor
open Go.RowKit

/-- a space without keys -/
theorem new_sp {B : Nat} {w w1 : World} {d : Nat} {room : Int} (h : ∃ O, Dc.DE.Dq B w1 d O Dc.newD ∧ (∀ k, O k → w.heap.size ≤ k) ∧ Below w.heap.size w w1) :
    ∃ O A, Sp B ((w1.alloc (.map #[] 0)).alloc (.cells #[.int .i64 room, .int .i64 0, .int .i64 0, .int .i64 1099511627777, ptr d, .map (some w1.heap.size)] 66)) (w1.heap.size + 1) O A [] room 0 ∧ (∀ k, A k → w.heap.size ≤ k) ∧ Below w.heap.size w ((w1.alloc (.map #[] 0)).alloc (.cells #[.int .i64 room, .int .i64 0, .int .i64 0, .int .i64 1099511627777, ptr d, .map (some w1.heap.size)] 66)) := by
  obtain ⟨Od, hq, ho, hb⟩ := h
  have hb2 : Below w1.heap.size w1 ((w1.alloc (.map #[] 0)).alloc (.cells #[.int .i64 room, .int .i64 0, .int .i64 0, .int .i64 1099511627777, ptr d, .map (some w1.heap.size)] 66)) := (below_alloc w1 _).alloc (by simp) _
  have hlt := Dc.DE.dq_lt hq
  have hBs := Dc.DE.dq_base hq
  have hs := hb.size
  have hz : ((w1.alloc (.map #[] 0)).alloc (.cells #[.int .i64 room, .int .i64 0, .int .i64 0, .int .i64 1099511627777, ptr d, .map (some w1.heap.size)] 66)).heap.size = w1.heap.size + 2 := by simp
  have hmap : ((w1.alloc (.map #[] 0)).alloc (.cells #[.int .i64 room, .int .i64 0, .int .i64 0, .int .i64 1099511627777, ptr d, .map (some w1.heap.size)] 66)).heap[w1.heap.size]? = some (.map #[] 0) := (heap_alloc_old _ _ (by simp)).trans (heap_alloc_new w1 _)
  refine ⟨fun k => k = w1.heap.size + 1 ∨ k = w1.heap.size ∨ Od k, fun k => k = w1.heap.size + 1 ∨ k = w1.heap.size ∨ Od k, ⟨d, w1.heap.size, Od, Dc.newD, fun _ => [], 0, 1099511627777, ⟨?_, ?_, ?_, fun _ => Iff.rfl, by omega, (fun h => by have := hlt _ h; omega), (fun h => by have := hlt _ h; omega), fun _ h => h, fun k hk => ?_, (fun p hp => by cases hp)⟩, ⟨rfl, (fun p hp => by cases hp), Dc.Srt.nil, fun _ => rfl, rfl, (fun x hx => by cases hx), by simp, Dc.Small.new.mono (by omega)⟩, ⟨(fun x hx => by cases hx), by omega, by omega⟩⟩, fun k hk => ?_, hb.trans (hb2.mono hs)⟩
  · have := heap_alloc_new (w1.alloc (.map #[] 0)) (.cells #[.int .i64 room, .int .i64 0, .int .i64 0, .int .i64 1099511627777, ptr d, .map (some w1.heap.size)] 66)
    rwa [show (w1.alloc (.map #[] 0)).heap.size = w1.heap.size + 1 by simp] at this
  · exact Dc.DE.dq_turn hq (fun k hk => hb2.block k (by rcases hk with hk | hk; omega; exact hlt k hk)) hb2.size
  · exact ⟨#[], 0, hmap, (fun e he => by simp at he), (fun n hn => absurd rfl hn), by simp⟩
  · rw [hz]
    rcases hk with rfl | rfl | hk
    · omega
    · omega
    · have := hlt k hk
      have := dq_ge hq k hk
      omega
  · rcases hk with rfl | rfl | hk
    · omega
    · omega
    · exact ho k hk
set_option maxHeartbeats 2000000 in
set_option maxRecDepth 100000 in
/-- New -/
theorem knew_any {B : Nat} (hB0 : 8 < B) (w : World) (hV : Tab w) (hB : B ≤ w.heap.size) (room : Int) :
    Calls Tryz.prog 9 #[.int .i64 room] w fun e w' => ∃ b, e = .returned (ptr b) ∧ Hid (∃ O A, Sp B w' b O A [] room 0 ∧ (∀ k, A k → w.heap.size ≤ k) ∧ Below w.heap.size w w') := by
  have hmm := @run_makeMap Tryz.prog
  have HN := hid (Dc.DE.dq_new hB0 w hV hB)
  clear hV
  go_enter Tryz.func9, Tryz.ntmps9
  go_wp2_with fail
  refine HN.out.mono ?_; rintro e w1 ⟨d, rfl, hh⟩
  have H1 := hid hh.out
  clear hh
  go_wp2_with fail
  go_ret
  refine ⟨_, rfl, ?_⟩
  exact new_sp H1.out
end Go.Proofs.YtcbncdigejjcpaaGreatDoor

namespace Go.Proofs.YtcbncdigejjcpaaGreatDoor
open Go.RowKit

theorem Sp_names {D : Dc.DM E8} {f : Int → Row} {mem : Int} {L : List EP} (h : SpL D f mem L) : Dc.namesL D.L = L.map (·.1) := by
  rw [← h.ent]
  exact ofD_names h.key
/-- an entry's rows are no rows of entries -/
theorem OwnEn.other {n g : Nat} {w w' : World} {y : E8} {cs : Array Value} (h : OwnEn n w y) (hg : w.heap[g]? = some (.cells cs 51 (0, 0))) (k : Keep (· ≠ g) w w') : OwnEn n w' y := by
  have hi : ∀ g' o' cs', y.ip = some ⟨g', o', none⟩ → w.heap[g']? = some (.cells cs' 9 (0, 0)) → g' ≠ g := fun g' o' cs' _ h2 e => by
    rw [e, hg] at h2
    injection h2 with h2
    injection h2 with _ h2 _
    revert h2
    decide
  have hp : ∀ g' o' cs', y.pp = some ⟨g', o', none⟩ → w.heap[g']? = some (.cells cs' 102 (0, 0)) → g' ≠ g := fun g' o' cs' _ h2 e => by
    rw [e, hg] at h2
    injection h2 with h2
    injection h2 with _ h2 _
    revert h2
    decide
  refine ⟨⟨⟨prs_keep h.vi.pairs.prs (fun hne a ha => ?_) k, h.vi.pairs.nil, h.vi.pairs.cap⟩, ⟨strs_keep h.vi.items.strs (fun hne a ha => ?_) k, h.vi.items.nil, h.vi.items.cap⟩⟩, ⟨fun hne => ?_, fun hne => ?_⟩, fun hne => ?_⟩
  · obtain ⟨g', o, cs', h1, h2, h3⟩ := h.wt.pairs (List.length_pos_iff.2 hne)
    rw [ha] at h1
    injection h1 with h1
    rw [h1]
    exact hp g' o cs' (by rw [ha, h1]) h3
  · obtain ⟨g', o, cs', h1, h2, h3⟩ := h.wt.items (List.length_pos_iff.2 hne)
    rw [ha] at h1
    injection h1 with h1
    rw [h1]
    exact hi g' o cs' (by rw [ha, h1]) h3
  · obtain ⟨g', o, cs', h1, h2, h3⟩ := h.wt.items hne
    exact ⟨g', o, cs', h1, h2, (k.block g' (Array.getElem?_eq_some_iff.1 h3).1 (hi g' o cs' h1 h3)).trans h3⟩
  · obtain ⟨g', o, cs', h1, h2, h3⟩ := h.wt.pairs hne
    exact ⟨g', o, cs', h1, h2, (k.block g' (Array.getElem?_eq_some_iff.1 h3).1 (hp g' o cs' h1 h3)).trans h3⟩
  · obtain ⟨g', cs', h1, h2, h3, h4⟩ := h.room hne
    exact ⟨g', cs', h1, h2, (k.block g' (Array.getElem?_eq_some_iff.1 h3).1 (hp g' 0 cs' h1 h3)).trans h3, h4⟩
theorem OwnEn.below {n : Nat} {w w' : World} {y : E8} (h : OwnEn n w y) (hb : Below w.heap.size w w') : OwnEn n w' y := h.keep (Keep.of_below hb)
end Go.Proofs.YtcbncdigejjcpaaGreatDoor

namespace Go.Proofs.YtcbncdigejjcpaaGreatDoor
open Go.RowKit

theorem tickL_app (T : Int) (a b : List EP) : tickL T (a ++ b) = tickL T a ++ tickL T b := by simp [tickL]
theorem tickL_all {T soon : Int} {L : List EP} (h : ∀ x ∈ L, x.2.2 = 0 ∨ soon ≤ x.2.2) (hT : T < soon) : tickL T L = L := by
  unfold tickL
  rw [List.filter_eq_self]
  intro x hx
  rcases h x hx with e | e
  · simp [e]
  · have : T < x.2.2 := by omega
    simp [this]
theorem tickL_len (T : Int) (L : List EP) : (tickL T L).length ≤ L.length := List.length_filter_le _ _
/-- one entry more is looked at -/
theorem tick_step_over {T : Int} {L : List EP} (hs : SrtL L) {i : Nat} (hi : i < L.length) (ho : 0 < L[i].2.2 ∧ L[i].2.2 ≤ T) : delL L[i].1 (tickL T (L.take i) ++ L.drop i) = tickL T (L.take (i + 1)) ++ L.drop (i + 1) := by
  have hp := List.pairwise_iff_getElem.1 hs
  have h1 : ∀ x ∈ tickL T (L.take i), x.1 ≠ L[i].1 := fun x hx e => by
    obtain ⟨j, hj, rfl⟩ := List.getElem_of_mem (List.mem_filter.1 hx).1
    rw [List.length_take] at hj
    rw [List.getElem_take] at e
    have := hp j i (by omega) hi (by omega)
    rw [e] at this
    exact nm_lt_irrefl _ this
  have h2 : ∀ x ∈ L.drop (i + 1), x.1 ≠ L[i].1 := fun x hx e => by
    obtain ⟨j, hj, rfl⟩ := List.getElem_of_mem hx
    rw [List.getElem_drop] at e
    rw [List.length_drop] at hj
    have := hp i (i + 1 + j) hi (by omega) (by omega)
    rw [e] at this
    exact nm_lt_irrefl _ this
  rw [delL_app, delL_not h1, List.drop_eq_getElem_cons hi, List.take_succ_eq_append_getElem hi, tickL_app]
  congr 1
  · have : tickL T [L[i]] = [] := by
      unfold tickL
      rw [List.filter_cons_of_neg (by simp; omega)]
      rfl
    rw [this, List.append_nil]
  · unfold delL
    rw [List.filter_cons_of_neg (by simp)]
    exact delL_not h2
theorem tick_step_on {T : Int} {L : List EP} {i : Nat} (hi : i < L.length) (ho : ¬ (0 < L[i].2.2 ∧ L[i].2.2 ≤ T)) (h0 : 0 ≤ L[i].2.2) : tickL T (L.take i) ++ L.drop i = tickL T (L.take (i + 1)) ++ L.drop (i + 1) := by
  rw [List.drop_eq_getElem_cons hi, List.take_succ_eq_append_getElem hi, tickL_app]
  have : tickL T [L[i]] = [L[i]] := by
    unfold tickL
    rw [List.filter_cons_of_pos (by simp; omega)]
    rfl
  rw [this, List.append_assoc]
  rfl
theorem Tl.stp {w w' : World} {O O' A A' : Nat → Prop} {v : Value} {l : Row} (h : Tl (Off O) w v l) (s : Stp w w' O O' A A') : Tl (Off O') w' v l := by
  rcases h with h | ⟨g, o, c, h1, h2, h3, h4, h5⟩
  · exact .inl h
  · refine .inr ⟨g, o, c, h1, h2, fun h => ?_, Nat.lt_of_lt_of_le h4 s.keep.size, fun i hi => cell_turn (h5 i hi) (s.keep.block g h4 h3)⟩
    rcases s.o g h with h | h
    · exact h3 h
    · omega
/-- while Tick goes through the names -/
def TickAt (B : Nat) (w : World) (b d mb : Nat) (O A : Nat → Prop) (room T : Int) (Li Lt : List EP) (v : Value) (nm : Row) (W : World) : Prop :=
  ∃ O' A' Od D f mem soon, SpC B W b d mb O' A' Od D f room mem T soon ∧ SpL D f mem Li ∧ (∀ x ∈ Lt, x.2.2 = 0 ∨ soon ≤ x.2.2) ∧ (0 ≤ soon ∧ soon ≤ 1099511627777) ∧ Stp w W O O' A A' ∧ Tl (Off O') W v nm
def TickPost (B : Nat) (w : World) (b d mb : Nat) (O A : Nat → Prop) (L : List EP) (room T : Int) (w' : World) : Prop :=
  ∃ O' A' Od D f mem soon, SpC B w' b d mb O' A' Od D f room mem T soon ∧ SpL D f mem (tickL T L) ∧ Live T soon (tickL T L) ∧ Stp w w' O O' A A'
set_option maxHeartbeats 4000000 in
set_option maxRecDepth 100000 in
/-- Tick, when nothing can have ended -/
theorem ktick_no {B : Nat} {w : World} {b d mb : Nat} {O A Od : Nat → Prop} {D : Dc.DM E8} {f : Int → Row} {room mem now soon : Int} {L : List EP} (h : SpC B w b d mb O A Od D f room mem now soon) (hL : SpL D f mem L) (hv : Live now soon L) (t T : Int) (hTm : max now (min t 1099511627776) = T) (hT : T < soon) :
    Calls Tryz.prog 14 #[ptr b, .int .i64 t] w fun e w' => e = .returned (.int .i64 ((L.length : Int) - ((tickL T L).length : Int))) ∧ Hid (TickPost B w b d mb O A L room T w') := by
  have htl := tickL_all (L := L) (T := T) (fun x hx => (hv.live x hx).imp id (·.2)) hT
  have hnow := hv.now
  have hsn := hv.soon
  have HPost : Hid (∀ w', SpC B w' b d mb O A Od D f room mem T soon → Stp w w' O O A A → TickPost B w b d mb O A L room T w') := fun w' k1 k2 => ⟨O, A, Od, D, f, mem, soon, k1, by rw [htl]; exact hL, by rw [htl]; exact ⟨fun x hx => (hv.live x hx).imp id (fun h => ⟨by omega, h.2⟩), by omega, hsn⟩, k2⟩
  rw [htl, Int.sub_self]
  have H2 := hid (h.setNow T)
  obtain ⟨a0, a1, a2, a3, a4, a5⟩ := h.facts
  have f2 := h.frozen 2
  have hbl := h.blt.1
  have HBd := hid (Below.refl (w.setCell ⟨b, 2, none⟩ (.int .i64 T)).heap.size (w.setCell ⟨b, 2, none⟩ (.int .i64 T))).drew
  clear h hL hv htl
  go_enter Tryz.func14, Tryz.ntmps14
  go_wp2_with fail
  go_region
  all_goals go_wp2_with fail
  all_goals go_ret
  all_goals exact ⟨rfl, HPost.out _ (H2.out.1.below HBd.out) (H2.out.2.trans (Stp.below HBd.out O A))⟩
set_option maxHeartbeats 8000000 in
set_option maxRecDepth 100000 in
/-- Tick, when all entries are looked at -/
theorem ktick_yes {B : Nat} {w : World} {b d mb : Nat} {O A Od : Nat → Prop} {D : Dc.DM E8} {f : Int → Row} {room mem now soon : Int} {L : List EP} (h : SpC B w b d mb O A Od D f room mem now soon) (hL : SpL D f mem L) (hv : Live now soon L) (t T : Int) (hTm : max now (min t 1099511627776) = T) (hT : ¬ T < soon) :
    Calls Tryz.prog 14 #[ptr b, .int .i64 t] w fun e w' => e = .returned (.int .i64 ((L.length : Int) - ((tickL T L).length : Int))) ∧ Hid (TickPost B w b d mb O A L room T w') := by
  have hnow := hv.now
  have hsn := hv.soon
  have hTz : 0 ≤ T ∧ T ≤ 1099511627776 := by omega
  obtain ⟨h2, s2⟩ := h.setNow T
  have hd2 := h2.below (Below.refl _ _).drew
  have H2 := hid hd2
  have S2 := hid (s2.trans (Stp.below (Below.refl _ (w.setCell ⟨b, 2, none⟩ (.int .i64 T))).drew O A))
  obtain ⟨a0, a1, a2, a3, a4, a5⟩ := h.facts
  have f2 := h.frozen 2
  have hbl := h.blt.1
  have HL := hid hL
  have HLn := hid (klen_any hd2)
  rw [hL.dlen] at HLn
  have hlz : (L.length : Int) ≤ 4096 := by have := hL.len; omega
  clear h h2 s2 hd2 hL hv
  go_enter Tryz.func14, Tryz.ntmps14
  go_wp2_with fail
  go_region
  go_wp2_with fail
  refine HLn.out.mono ?_; rintro e w3 ⟨rfl, hh⟩
  have h3 := H2.out.below hh.out
  have s3 := S2.out.trans (Stp.below hh.out O A)
  obtain ⟨h4, s4⟩ := h3.setSoon 1099511627777
  have H4 := hid h4
  have S4 := hid (s3.trans s4)
  obtain ⟨b0, b1, b2, b3, b4, b5⟩ := h3.facts
  have g3 := h3.frozen 3
  have hbl3 := h3.blt.1
  have HN := hid (Dc.DE.dq_names d Od D _ h4.dq HL.out.small2)
  rw [Sp_names HL.out, HL.out.dlen] at HN
  obtain ⟨c0, c1, c2, c3, c4, c5⟩ := h4.facts
  clear hh h3 s3 h4 s4 a0 a1 a2 a3 a4 a5 f2 hTm
  go_wp2_with fail
  refine HN.out.mono ?_; rintro e w5 ⟨q, cq, rfl, hh⟩
  have HT := hid hh.out.1
  have hz4 : (w3.setCell ⟨b, 3, none⟩ (.int .i64 1099511627777)).heap.size = w3.heap.size := by simp
  have H5 := hid (H4.out.below hh.out.2)
  have S5 := hid (S4.out.trans (Stp.below hh.out.2 O A))
  clear hh b0 b1 b2 b3 b4 b5 g3 c0 c1 c2 c3 c4 c5
  go_wp2_with fail
  go_loopw [40] (fun v40 W => ∃ i : Nat, v40 = .int .i64 i ∧ i ≤ L.length ∧ Hid (TickAt B w b d mb O A room T (tickL T (L.take i) ++ L.drop i) (tickL T (L.take i)) (.slice q L.length cq) (L.map (·.1)) W)) (fun v40 _ => L.length - (intOf v40).toNat)
  case atStart =>
    refine ⟨0, rfl, Nat.zero_le _, O, A, Od, D, f, mem, 1099511627777, H5.out, ?_, ?_, by omega, S5.out, ?_⟩
    · simpa [tickL] using HL.out
    · intro x hx
      simp [tickL] at hx
    · rcases HT.out with h | ⟨g, o, c, k1, k2, k3, k4, k5⟩
      · exact .inl h
      · refine .inr ⟨g, o, c, k1, k2, fun ho => ?_, k4, k5⟩
        have := (H4.out.lt g (H4.out.sub g ho)).2
        omega
  case round =>
    obtain ⟨i, rfl, hi, HA⟩ := hrel
    obtain ⟨O6, A6, Od6, D6, f6, mem6, soon6, h6, l6, v6, n6, s6, t6⟩ := HA.out
    by_cases hlt : i < L.length
    · have hiz : (i : Int) < (L.length : Int) := by omega
      obtain ⟨g, o, rfl, hgl, -, hcs⟩ := t6.cells i (by simpa using hlt)
      have x0 := hcs i (by simpa using hlt)
      rw [List.getElem_map] at x0
      have hmem : L[i] ∈ tickL T (L.take i) ++ L.drop i := List.mem_append_right _ (by rw [List.drop_eq_getElem_cons hlt]; exact List.mem_cons_self)
      have hgd := HL.out.good L[i] (List.getElem_mem _)
      have hg6 := getL_of l6.srtL hmem rfl
      obtain ⟨g1, g2, g2c, gk, g3, g4⟩ := h6.at l6 L[i].1
      rw [hg6] at g3 g4
      have HG := hid (Dc.DE.dq_get d Od6 D6 L[i].1 wr h6.dq l6.small2 (by omega))
      rw [g4] at HG
      obtain ⟨y, hy⟩ : ∃ y, y = (Dc.getL L[i].1 D6.L).getD Dc.DE.e80 := ⟨_, rfl⟩
      rw [← hy] at g3 HG
      obtain ⟨a0, a1, a2, a3, a4, a5⟩ := h6.facts
      have hbl6 := h6.blt.1
      have H6 := hid h6
      have L6 := hid l6
      have V6 := hid v6
      have N6 := hid n6
      have S6 := hid s6
      have T6 := hid t6
      have hye : y.ends = L[i].2.2 := congrArg (fun z : EP => z.2.2) g3
      have HYe := hid hye
      have HGd := hid hgd
      have HLt := hid hlt
      have HKn := hid (show L[i].1.length ≤ 140737488351232 by have := hgd.1; omega)
      generalize hz : L[i] = z at *
      have HZ := hid hz.symm
      clear hcs hmem hgd hg6 g1 g2 g2c gk g3 g4 hy h6 l6 v6 n6 s6 t6 HA hye hz
      go_wp2_with fail
      refine HG.out.mono ?_; rintro e w7 ⟨rfl, hh⟩
      have hba := below_alloc w7 (eob y)
      have hb8 := hh.out.trans (hba.mono hh.out.size)
      have h8 := H6.out.below hb8
      have H8 := hid h8
      have S8 := hid (S6.out.trans (Stp.below hb8 O6 A6))
      have T8 := hid (T6.out.stp (Stp.below hb8 O6 A6))
      have HE := hid (kended_any h8 y)
      obtain ⟨y0, y1, y2, y3, y4, y5, y6, y7⟩ := ent_facts (ent_new w7 y)
      have HY8 := hid (ent_new w7 y)
      have hz8 : (w7.alloc (eob y)).heap.size = w7.heap.size + 1 := by simp
      have HZ8 := hid hz8
      rw [HYe.out] at HE
      clear hh hba hb8 h8 a0 a1 a2 a3 a4 a5 hz8
      by_cases hov : 0 < z.2.2 ∧ z.2.2 ≤ T
      · rw [decide_eq_true hov] at HE
        have HSt : Hid (delL z.1 (tickL T (L.take i) ++ L.drop i) = tickL T (L.take (i + 1)) ++ L.drop (i + 1)) := by
          have e := HZ.out
          unfold Hid
          clear HZ
          subst e
          exact tick_step_over HL.out.srtL HLt.out hov
        have HTt : Hid (tickL T (L.take (i + 1)) = tickL T (L.take i)) := by
          have e := HZ.out
          unfold Hid
          clear HZ
          subst e
          rw [List.take_succ_eq_append_getElem HLt.out, tickL_app]
          refine (congrArg (fun l => tickL T (L.take i) ++ l) (?_ : tickL T [L[i]] = [])).trans (List.append_nil _)
          unfold tickL
          rw [List.filter_cons_of_neg (by simp; omega)]
          rfl
        clear hov
        go_wp2_with fail
        refine HE.out.mono ?_; rintro e w9 ⟨rfl, hh⟩
        have h9 := H8.out.below hh.out
        have HDl := hid (kdel_any h9 L6.out z.1 HKn.out)
        have S9 := hid (S8.out.trans (Stp.below hh.out O6 A6))
        have T9 := hid (T8.out.stp (Stp.below hh.out O6 A6))
        clear hh h9 y0 y1 y2 y3 y4 y5 y6 y7
        go_wp2_with fail
        refine HDl.out.mono ?_; rintro e w10 ⟨rfl, hh⟩
        obtain ⟨O10, A10, Od10, D10, f10, mem10, h10, l10, s10⟩ := hh.out
        have HF : Hid (TickAt B w b d mb O A room T (tickL T (L.take (i + 1)) ++ L.drop (i + 1)) (tickL T (L.take (i + 1))) (.slice (some ⟨g, o, none⟩) L.length cq) (L.map (·.1)) w10) := by
          refine ⟨O10, A10, Od10, D10, f10, mem10, soon6, h10, ?_, ?_, N6.out, S9.out.trans s10, T9.out.stp s10⟩
          · rw [← HSt.out]; exact l10
          · rw [HTt.out]; exact V6.out
        clear hh h10 l10 s10
        go_wp2_with fail
        exact ⟨⟨i + 1, by go_num, by omega, HF.out⟩, by simp [intOf]; omega⟩
      · rw [decide_eq_false hov] at HE
        have HSt : Hid (tickL T (L.take i) ++ L.drop i = tickL T (L.take (i + 1)) ++ L.drop (i + 1)) := by
          have e := HZ.out
          unfold Hid
          have hg := HGd.out.2.2.1
          clear HZ
          subst e
          exact tick_step_on HLt.out hov hg
        have HTt : Hid (tickL T (L.take (i + 1)) = tickL T (L.take i) ++ [z]) := by
          have e := HZ.out
          unfold Hid
          have hg := HGd.out.2.2.1
          clear HZ
          subst e
          rw [List.take_succ_eq_append_getElem HLt.out, tickL_app]
          refine congrArg (fun l => tickL T (L.take i) ++ l) (?_ : tickL T [L[i]] = [L[i]])
          unfold tickL
          rw [List.filter_cons_of_pos (by simp; omega)]
          rfl
        have HOv := hid hov
        clear hov
        go_wp2_with fail
        refine HE.out.mono ?_; rintro e w9 ⟨rfl, hh⟩
        have h9 := H8.out.below hh.out
        have HX := hid (kexpect_any h9 y)
        have S9 := hid (S8.out.trans (Stp.below hh.out O6 A6))
        have T9 := hid (T8.out.stp (Stp.below hh.out O6 A6))
        have hY9 := (hh.out.block w7.heap.size (by have := HZ8.out; omega)).trans HY8.out
        obtain ⟨k0, k1, k2, k3, k4, k5, k6, k7⟩ := ent_facts hY9
        clear hh h9 y0 y1 y2 y3 y4 y5 y6 y7 hY9
        go_wp2_with fail
        refine HX.out.mono ?_; rintro e w10 ⟨rfl, hh⟩
        have HF : Hid (TickAt B w b d mb O A room T (tickL T (L.take (i + 1)) ++ L.drop (i + 1)) (tickL T (L.take (i + 1))) (.slice (some ⟨g, o, none⟩) L.length cq) (L.map (·.1)) w10) := by
          refine ⟨O6, A6, Od6, D6, f6, mem6, _, hh.out.1, ?_, ?_, ?_, S9.out.trans hh.out.2, T9.out.stp hh.out.2⟩
          · rw [← HSt.out]; exact L6.out
          · rw [HTt.out]
            intro x hx
            rcases List.mem_append.1 hx with hx | hx
            · refine (V6.out x hx).imp id (fun h => ?_)
              split
              · omega
              · exact h
            · rw [List.mem_singleton.1 hx]
              by_cases h0 : z.2.2 = 0
              · exact .inl h0
              · refine .inr ?_
                have := HGd.out.2.2.1
                rw [HYe.out, if_pos (by omega)]
                omega
          · have := N6.out
            split
            · rename_i hp
              rw [HYe.out] at hp ⊢
              have := HGd.out.2.2.2
              omega
            · exact this
        clear hh k0 k1 k2 k3 k4 k5 k6 k7
        go_wp2_with fail
        exact ⟨⟨i + 1, by go_num, by omega, HF.out⟩, by simp [intOf]; omega⟩
    · obtain rfl : i = L.length := by omega
      rw [List.take_length, List.drop_length, List.append_nil] at l6
      rw [List.take_length] at v6
      have HLn6 := hid (klen_any h6)
      rw [l6.dlen] at HLn6
      have hle := tickL_len T L
      have HPost : Hid (∀ w', Below wr.heap.size wr w' → TickPost B w b d mb O A L room T w') := fun w' hb => by
        refine ⟨O6, A6, Od6, D6, f6, mem6, soon6, h6.below hb, l6, ⟨fun x hx => ?_, hTz, n6⟩, s6.trans (Stp.below hb O6 A6)⟩
        have h2 := (List.mem_filter.1 hx).2
        simp only [Bool.or_eq_true, beq_iff_eq, decide_eq_true_eq] at h2
        rcases h2 with e | e
        · exact .inl e
        · exact (v6 x hx).imp id (fun h => ⟨e, h⟩)
      have hlez : ((tickL T L).length : Int) ≤ (L.length : Int) := by omega
      have hM0 : (0 : Int) ≤ ((tickL T L).length : Int) := by omega
      clear h6 l6 v6 n6 s6 t6 HA hle
      generalize hM : ((tickL T L).length : Int) = M at *
      have HM := hid hM
      clear hM
      go_wp2_with fail
      refine HLn6.out.mono ?_; rintro e w7 ⟨rfl, hh⟩
      have HP := hid (HPost.out w7 hh.out)
      clear hh
      go_wp2_with fail
      go_ret
      exact ⟨by rw [HM.out]; rfl, HP⟩

end Go.Proofs.YtcbncdigejjcpaaGreatDoor

namespace Go.Proofs.YtcbncdigejjcpaaGreatDoor.Ex
open Re (Rep)
open Go.RowKit

abbrev eob0 : Obj := .cells #[.string ⟨#[]⟩, .int .i64 0, .string ⟨#[]⟩, .slice none 0 0, .slice none 0 0, .int .i64 0, .int .i64 0, .int .i64 0] 51
/-- a key's value, or an empty one of a kind -/
def curV (L : List EP) (k : Nm) (K : Int) : Vl := if isIn L k then valOf L k else ⟨K, [], [], [], 0, 0⟩
theorem get_key {L : List EP} {k : Nm} {x : EP} (h : getL k L = some x) : x.1 = k := by
  have := List.find?_some h
  simpa using this
theorem ret_e3 {fn : Func} {p q s : Tmp} (h : fn.results = #[.cell p 51, .tmp q, .tmp s]) {tmps : Array Value} {w : World} {b : Nat} {c0 c1 c2 c3 c4 c5 c6 c7 v u : Value} (hp : tmps.getD p undef = .pointer (some ⟨b, 0, none⟩)) (hq : tmps.getD q undef = v) (hs : tmps.getD s undef = u) (hB : w.heap[b]? = some (.cells #[c0, c1, c2, c3, c4, c5, c6, c7] 51 (0, 0))) :
    (results fn tmps).run Tryz.prog w = .ok (.tuple #[.agg #[c0, c1, c2, c3, c4, c5, c6, c7], v, u]) w := by
  have hp' : tmps[p]?.getD undef = .pointer (some ⟨b, 0, none⟩) := by simpa using hp
  have hq' : tmps[q]?.getD undef = v := by simpa using hq
  have hs' : tmps[s]?.getD undef = u := by simpa using hs
  simp [results, h, hp', hq', hs', asAddr, run_loadVar_row w b 51 51 #[c0, c1, c2, c3, c4, c5, c6, c7] (0, 0) _ hB Tryz.underlying51 rfl (infoE _ rfl)]
theorem one_e (x : E8) : x.cells.all (·.oneCell') = true := by simp [Value.oneCell']
set_option maxHeartbeats 4000000 in
set_option maxRecDepth 100000 in
theorem entry_walk {w : World} (b : Nat) (nm : Nm) (g o n c : Nat) (k : Nm) (K : Int) (is : Bool) (P : E8 → Prop) (hn : 0 < n) (hk : w.cell? ⟨g, o, none⟩ = some (txt k))
    (hG : ∀ W, Below w.heap.size w W → Calls Tryz.prog 18 #[pt b, txt k] W fun e w' => ∃ y : E8, e = .returned (.tuple #[ev y, .bool is]) ∧ Hid (P y ∧ OwnEn W.heap.size w' y ∧ Below W.heap.size W w')) :
    Calls Tryz.prog 150 #[cv b nm (some ⟨g, o, none⟩) n c, .int .i64 K] w fun e w' => ∃ (y0 y : E8), e = .returned (.tuple #[ev y, .bool is, .bool (y.m.kind == K)]) ∧ Hid (P y0 ∧ (is = true → y = y0) ∧ (is = false → y = ⟨k, ⟨K, [], [], [], 0, 0⟩, none, 0, none, 0, 0⟩) ∧ OwnEn w.heap.size w' y ∧ Below w.heap.size w w') := by
  have HA := hid (al_two w (cob b nm (some ⟨g, o, none⟩) n c) eob0)
  have hgl := block_lt_of_cell hk
  have HK := hid (fun W h => key_any b nm g o n c k W hn h)
  have HG := hid hG
  have hk0 : ((w.alloc (cob b nm (some ⟨g, o, none⟩) n c)).alloc eob0).drew.cell? ⟨g, o, none⟩ = some (txt k) := cell_turn hk (HA.out.1.block g hgl)
  obtain ⟨x0, x1, x2⟩ := call_facts HA.out.2.1
  have HB0 : Hid (Below w.heap.size w ((w.alloc (cob b nm (some ⟨g, o, none⟩) n c)).alloc eob0).drew) := HA.out.1.drew
  have HS0 : Hid (((w.alloc (cob b nm (some ⟨g, o, none⟩) n c)).alloc eob0).drew.heap.size = w.heap.size + 2) := HA.out.2.2.2
  have Hk := hid hk
  clear hG hk
  go_enter Tryz.func150, Tryz.ntmps150
  go_wp2_with fail
  go_region_law
    (first
      | (go_simp; go_at_call 124; (with_reducible refine (HK.out _ hk0).mono ?_); rintro e w1 ⟨rfl, hb1⟩; have HB1 := hid (HB0.out.trans (hb1.out.mono HB0.out.size)); have HE1 := hid ((hb1.out.block (w.heap.size + 1) (by rw [HS0.out]; omega)).trans HA.out.2.2.1); have HC1 := hid ((hb1.out.block w.heap.size (by rw [HS0.out]; omega)).trans HA.out.2.1); have HS1 : Hid (w.heap.size + 2 ≤ w1.heap.size) := (by have := hb1.out.size; rw [HS0.out] at this; exact this); obtain ⟨y0, y1, y2⟩ := call_facts HC1.out)
      | (go_simp; go_at_call 18; (with_reducible refine (HG.out _ HB1.out).mono ?_); rintro e w2 ⟨y, rfl, hh⟩; have HY := hid hh.out.1; have HO2 := hid hh.out.2.1; have HB2 := hid (HB1.out.trans (hh.out.2.2.mono HB1.out.size)); have HE2 := hid ((hh.out.2.2.block (w.heap.size + 1) (by have := HS1.out; omega)).trans HE1.out); have HC2 := hid ((hh.out.2.2.block w.heap.size (by have := HS1.out; omega)).trans HC1.out); obtain ⟨z0, z1, z2⟩ := call_facts HC2.out; obtain ⟨f0, f1, f2, f3, f4, f5, f6, f7⟩ := ent_frozen HE2.out; obtain ⟨d0, d1, d2, d3, d4, d5, d6, d7⟩ := ent_facts HE2.out))
  all_goals
    have HE3 := hid (Dc.DE.set8_same (txt y.key) (.int .i64 y.m.kind) (txt y.m.text) (.slice y.pp y.m.pairs.length y.pc) (.slice y.ip y.m.items.length y.ic) (.int .i64 y.m.px) (.int .i64 y.m.py) (.int .i64 y.ends) HE2.out)
    have HN3 := hid (set8_onlyB w2 (w.heap.size + 1) (txt y.key) (.int .i64 y.m.kind) (txt y.m.text) (.slice y.pp y.m.pairs.length y.pc) (.slice y.ip y.m.items.length y.ic) (.int .i64 y.m.px) (.int .i64 y.m.py) (.int .i64 y.ends))
    generalize ((((((((w2.setCell ⟨w.heap.size + 1, 0, none⟩ (txt y.key)).setCell ⟨w.heap.size + 1, 1, none⟩ (.int .i64 y.m.kind)).setCell ⟨w.heap.size + 1, 2, none⟩ (txt y.m.text)).setCell ⟨w.heap.size + 1, 3, none⟩ (.slice y.pp y.m.pairs.length y.pc)).setCell ⟨w.heap.size + 1, 4, none⟩ (.slice y.ip y.m.items.length y.ic)).setCell ⟨w.heap.size + 1, 5, none⟩ (.int .i64 y.m.px)).setCell ⟨w.heap.size + 1, 6, none⟩ (.int .i64 y.m.py)).setCell ⟨w.heap.size + 1, 7, none⟩ (.int .i64 y.ends)) = w3 at HE3 HN3 ⊢
    have HB3 := hid (HN3.out.below HB2.out (by omega))
    have HC3 := hid ((HN3.out.block w.heap.size (by omega)).trans HC2.out)
    have HO3 := hid ((HO2.out.keep (HN3.out.keep (by have := HS1.out; omega))).mono (show w.heap.size ≤ w1.heap.size by have := HS1.out; omega))
    have hk3 := cell_turn Hk.out (HB3.out.block g hgl)
    clear f0 f1 f2 f3 f4 f5 f6 f7 d0 d1 d2 d3 d4 d5 d6 d7 z0 z1 z2 y0 y1 y2 x0 x1 x2 hk0
    obtain ⟨x0, x1, x2⟩ := call_facts HC3.out
    obtain ⟨d0, d1, d2, d3, d4, d5, d6, d7⟩ := ent_facts HE3.out
    cases is
    · have HK3 := hid (HK.out w3 hk3)
      go_wp2_with fail
      refine HK3.out.mono ?_; rintro e w4 ⟨rfl, hb4⟩
      have hs3 : w.heap.size + 1 < w3.heap.size := (Array.getElem?_eq_some_iff.1 HE3.out).1
      have HE4 := hid ((hb4.out.block (w.heap.size + 1) hs3).trans HE3.out)
      have HB4 := hid (HB3.out.trans (hb4.out.mono HB3.out.size))
      have HE5 := hid (setRow_heap w4 (w.heap.size + 1) _ #[txt k, .int .i64 K, .string ⟨#[]⟩, .slice none 0 0, .slice none 0 0, .int .i64 0, .int .i64 0, .int .i64 0] _ _ HE4.out)
      have HB5 := hid (Re.below_setRow HB4.out (g := w.heap.size + 1) (by omega) #[txt k, .int .i64 K, .string ⟨#[]⟩, .slice none 0 0, .slice none 0 0, .int .i64 0, .int .i64 0, .int .i64 0])
      obtain ⟨e0, e1, e2, e3, e4, e5, e6, e7⟩ := ent_facts HE5.out
      clear hb4
      go_wp2_with (first
        | (refine wpList_store_row rfl 51 _ _ rfl (w.heap.size + 1) #[txt k, .int .i64 K, .string ⟨#[]⟩, .slice none 0 0, .slice none 0 0, .int .i64 0, .int .i64 0, .int .i64 0] rfl rfl 51 _ HE4.out (infoE _ rfl) rfl (by simp [Value.oneCell']) ?_)
        | (refine wpList_load_row rfl 51 _ rfl (w.heap.size + 1) rfl 51 _ (0, 0) _ HE5.out Tryz.underlying51 rfl (infoE _ rfl) ?_)
        | (refine wpList_store_row rfl 51 _ _ rfl (w.heap.size + 1) #[txt k, .int .i64 K, .string ⟨#[]⟩, .slice none 0 0, .slice none 0 0, .int .i64 0, .int .i64 0, .int .i64 0] rfl rfl 51 _ HE5.out (infoE _ rfl) rfl (by simp [Value.oneCell']) ?_))
      refine bodyPost_ret (v := .tuple #[ev ⟨k, ⟨K, [], [], [], 0, 0⟩, none, 0, none, 0, 0⟩, .bool false, .bool true]) ?_ rfl ?_
      · exact ret_e3 rfl rfl rfl rfl (setRow_heap _ _ _ _ _ _ HE5.out)
      · refine ⟨y, ⟨k, ⟨K, [], [], [], 0, 0⟩, none, 0, none, 0, 0⟩, by rw [show ((⟨k, ⟨K, [], [], [], 0, 0⟩, none, 0, none, 0, 0⟩ : E8).m.kind == K) = true from beq_self_eq_true K], HY.out, rfl, ⟨⟨Rp.nilRow _, Rd.nilRow _⟩, ⟨fun h => absurd h (Nat.lt_irrefl 0), fun h => absurd h (Nat.lt_irrefl 0)⟩, fun h => absurd h (Nat.lt_irrefl 0)⟩, Re.below_setRow HB5.out (by omega) _⟩
    · have HE5 := hid (setRow_heap w3 (w.heap.size + 1) _ y.cells _ _ HE3.out)
      go_wp2_with (first
        | (refine wpList_load_row rfl 51 _ rfl (w.heap.size + 1) rfl 51 _ (0, 0) _ HE3.out Tryz.underlying51 rfl (infoE _ rfl) ?_)
        | (refine wpList_store_row rfl 51 _ _ rfl (w.heap.size + 1) y.cells rfl rfl 51 _ HE3.out (infoE _ rfl) rfl (one_e _) ?_))
      refine bodyPost_ret (v := .tuple #[ev y, .bool true, .bool (y.m.kind == K)]) ?_ rfl ?_
      · exact ret_e3 rfl rfl rfl rfl HE5.out
      · refine ⟨y, y, rfl, HY.out, rfl, ?_, Re.below_setRow HB3.out (by omega) _⟩
        exact HO3.out.other HE3.out ⟨rfl, rfl, rfl, by simp, fun j _ hj => setRow_other _ _ _ _ hj⟩

end Go.Proofs.YtcbncdigejjcpaaGreatDoor.Ex
