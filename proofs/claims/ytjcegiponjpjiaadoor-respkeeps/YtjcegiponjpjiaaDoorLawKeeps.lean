/- The law RespKeeps, walked. -/
import Derived.Test.YtjcegiponjpjiaaDoorLawReads
namespace Go.Proofs.YtjcegiponjpjiaaDoor
open Go.RowKit

theorem heap_setCell_marked {W : World} {q : Nat} {cur : Array Value} {t : TypeId} {fr : Nat × Nat} (hg : W.heap[q]? = some (.cells cur t fr)) (i : Nat) (v : Value) : (W.setCell ⟨q, i, none⟩ v).heap[q]? = some (.cells (cur.setIfInBounds i v) t fr) := by
  rw [setCell_eq_setRow W q i cur t fr v hg]
  exact setRow_heap W q cur _ t _ hg
theorem strm_turned {w w' : World} {v : Value} {s : List UInt8} {q N : Nat} (h : Strm w v s) (hn : ∀ a n c, v = .slice (some a) n c → N ≤ a.block) (hq : q < N) (hO : Only q w w') : Strm w' v s := by
  obtain ⟨a, cap, rfl, h1, h2, h3⟩ := h
  refine ⟨a, cap, rfl, h1, h2, ?_⟩
  rcases h3 with h3 | ⟨g, off, cur, rfl, hg, r⟩
  · exact .inl h3
  · have := hn _ _ _ rfl
    exact .inr ⟨g, off, cur, rfl, (hO.block g (Array.getElem?_eq_some_iff.1 hg).1 (by simp at this; omega)).trans hg, r⟩
theorem conv_block (l : List UInt8) (w : World) : ∃ cap W, (convert 9 26 (.string ⟨l.toArray⟩)).run Tryd.prog w = .ok (.slice (some ⟨w.heap.size, 0, none⟩) l.length cap) W ∧ At W (some ⟨w.heap.size, 0, none⟩) l ∧ Below w.heap.size w W ∧ l.length ≤ cap ∧ w.heap.size < W.heap.size ∧ ∃ cur F, W.heap[w.heap.size]? = some (.cells cur 5 (F, F + 1)) ∧ l.length ≤ F ∧ l.length ≤ cur.size := by
  have hsz : (⟨l.toArray⟩ : ByteArray).size = l.length := by simp [ByteArray.size]
  have h := run_bytes_of_string (P := Tryd.prog) w 9 26 5 ⟨l.toArray⟩ Tryd.underlying9 Tryd.underlying26 Tryd.underlying5
  rw [hsz] at h
  have hrow : l.length ≤ (bytesRow ⟨l.toArray⟩ (grownCap w l.length 0 5)).size := by simp [bytesRow]
  refine ⟨_, _, h, fun _ => ⟨w.heap.size, 0, rfl, fun i hi => ?_, _, _, heap_alloc_new w.drew _⟩, ?_, grownCap_ge w l.length 0 5, by simp, _, _, heap_alloc_new w.drew _, hrow, hrow⟩
  · rw [Nat.zero_add]
    refine (cell_of_row _ w.heap.size i _ _ _ (heap_alloc_new w.drew _)).trans ?_
    simp [bytesRow, Array.getElem?_append, hi]
  · exact (below_drawn (Below.refl _ _) 1).alloc (Nat.le_refl _) _
/-- Feed, of a new parser -/
theorem feed_new (b : Nat) (t : List UInt8) (q : Option Addr) (c : Nat) (w : World) (h : Pars w b (.slice none 0 0) 0) (hq : At w q t) (hlen : t.length ≤ 140737488300000) :
    Calls Tryd.prog 11 #[.pointer (some ⟨b, 0, none⟩), .slice q t.length c] w fun r w' => r = .returned (.tuple #[]) ∧ Hid (∃ v, Pars w' b v 0 ∧ Strm w' v t ∧ (∀ a n c, v = .slice (some a) n c → w.heap.size ≤ a.block) ∧ Only b w w') := by
  refine (feed_any b (.slice none 0 0) [] t q c w h (Strm.nil _) (fun a n c e => by cases e) hq (by simpa using hlen)).mono ?_
  rintro r w' ⟨rfl, hh⟩
  obtain ⟨v', W, k1, k2, k3, rfl⟩ := hh.out
  rw [List.nil_append] at k1
  have hn : ∀ a n c, v' = .slice (some a) n c → w.heap.size ≤ a.block := fun a n c e => by
    rcases k3 a n c e with ⟨a0, n0, c0, e0, _⟩ | h
    · cases e0
    · exact h
  have hPW : Pars W b (.slice none 0 0) 0 := (k2.block b h.lt fun a n c e => by cases e).trans h
  have hOW : Only b w W := ⟨k2.os, k2.tape, k2.output, k2.size, fun k hk _ => k2.block k hk fun a n c e => by cases e⟩
  refine ⟨rfl, v', hPW.set0 v', k1.keep fun a n c e => ?_, hn, hOW.setCell 0 v'⟩
  exact heap_setCell_other W ⟨b, 0, none⟩ a.block v' (fun hx => by have := hn a n c e; have := h.lt; simp at hx; omega)
set_option maxHeartbeats 2000000 in
set_option maxRecDepth 100000 in
theorem respKeeps_walk (s : List UInt8) (at_ : Int) (w : World) (hE : Envs w) (hl : s.length ≤ 140737488351232) (_h1 : -9223372036854775808 ≤ at_) (_h2 : at_ ≤ 9223372036854775807) :
    Calls Tryd.prog 8 #[.string ⟨s.toArray⟩, .int .i64 at_] w fun e w' => e = .returned (.bool true) ∧ Below w.heap.size w w' := by
  have HN := hid (new_any w)
  have HE := hid hE
  have h3 := hE.room
  clear hE
  go_enter Tryd.func8, Tryd.ntmps8
  go_wp2_with fail
  refine HN.out.mono ?_; rintro e w1 ⟨rfl, hw1⟩
  have hp1 : Pars w1 w.heap.size (.slice none 0 0) 0 := by rw [hw1]; exact heap_alloc_new w _
  have hb1 : Below w.heap.size w w1 := by rw [hw1]; exact below_alloc w _
  have hlt1 : w.heap.size < w1.heap.size := by rw [hw1]; simp
  clear hw1
  obtain ⟨b, hb⟩ : ∃ b, b = w.heap.size := ⟨_, rfl⟩
  rw [← hb] at hp1 hlt1 ⊢
  have Hb := hid hb
  clear hb HN
  by_cases hs : 20000 < s.length
  · have HA := hid (alive_any w1 (HE.out.below hb1 h3))
    have HB := hid hb1
    have hz : (20000 : Int) < (s.length : Int) := by omega
    clear hp1 hb1 hlt1
    go_wp2_with fail
    refine HA.out.mono ?_; rintro e w2 ⟨rfl, hb2⟩
    have HB2 := hid (HB.out.trans (hb2.out.mono HB.out.size))
    clear hb2
    go_wp2
    go_ret
    exact ⟨rfl, HB2.out⟩
  · have hz : ¬ ((20000 : Int) < (s.length : Int)) := by omega
    obtain ⟨cap, W1, hcv, hat, hbc, hcap, _, cur, F, hq, hF, hcs⟩ := conv_block s w1
    obtain ⟨q, hqe⟩ : ∃ q, q = w1.heap.size := ⟨_, rfl⟩
    rw [← hqe] at hcv hat hq
    have hqb : b < q := by rw [hqe]; exact hlt1
    have HF := hid (feed_new b s (some ⟨q, 0, none⟩) cap W1 (hp1.below hbc) hat (by omega))
    have HB1 : Hid (Below b w W1) := by rw [Hb.out]; exact hb1.trans (hbc.mono hb1.size)
    have hqW : q < W1.heap.size := (Array.getElem?_eq_some_iff.1 hq).1
    have HQ := hid hq
    have hb3' : 3 ≤ b := by rw [Hb.out]; exact h3
    have hcl0 : s.length ≤ cap := hcap
    clear hp1 hb1 hlt1 hat hbc hcap hqe hq
    go_wp2_with fail
    refine HF.out.mono ?_; rintro e w2 ⟨rfl, hh⟩
    obtain ⟨v2, hp2, hs2, hn2, ho2⟩ := hh.out
    have HQ2 := hid ((ho2.block q hqW (by omega)).trans HQ.out)
    have HP2 := hid (And.intro hp2 (And.intro hs2 hn2))
    have HB2 := hid (HB1.out.trans (ho2.below (Nat.le_refl _) (by omega)))
    have HqW := hid hqW
    clear hh hp2 hs2 hn2 ho2 HF HB1 hqW HQ
    go_wp2
    go_loopw [7, 33] (fun _ v33 W => ∃ i : Nat, i ≤ s.length ∧ v33 = .int .i64 i ∧ Hid (∃ cur, W.heap[q]? = some (.cells cur 5 (F, F + 1)) ∧ s.length ≤ cur.size) ∧ Hid (Only q w2 W)) (fun _ v33 _ => s.length - (intOf v33).toNat)
    case atStart => exact ⟨0, Nat.zero_le _, rfl, ⟨cur, HQ2.out, hcs⟩, Only.refl q w2⟩
    case round =>
      obtain ⟨i, hi, rfl, HQc, HOn⟩ := hrel
      by_cases hlt : i < s.length
      · obtain ⟨cu, hcu, hcz⟩ := HQc.out
        have hck : wr.cell? ⟨q, i, none⟩ = some cu[i] := by rw [cell_of_row wr q i _ _ _ hcu, Array.getElem?_eq_getElem (by omega)]
        have hfk : wr.frozen? ⟨q, i, none⟩ = false := by
          simp [World.frozen?, hcu]
          omega
        generalize cu[i] = old at hck
        have hiz : (i : Int) < (s.length : Int) := by omega
        have HN : Hid ((∃ cur, (wr.setCell ⟨q, i, none⟩ (.int .u8 120)).heap[q]? = some (.cells cur 5 (F, F + 1)) ∧ s.length ≤ cur.size) ∧ Only q w2 (wr.setCell ⟨q, i, none⟩ (.int .u8 120))) :=
          ⟨⟨_, heap_setCell_marked hcu i _, by simp; omega⟩, HOn.out.setCell i _⟩
        clear hcu hcz
        by_cases hge : at_ ≤ (i : Int)
        · go_wp2
          exact ⟨⟨i + 1, by omega, by go_num, HN.out.1, HN.out.2⟩, by simp [intOf]; omega⟩
        · go_wp2
          exact ⟨⟨i + 1, by omega, by go_num, HQc.out, HOn.out⟩, by simp [intOf]; omega⟩
      · obtain rfl : i = s.length := by omega
        have hP3 : Par wr b s 0 := by
          obtain ⟨k1, k2, k3⟩ := HP2.out
          exact ⟨v2, (HOn.out.block b k1.lt (by omega)).trans k1, strm_turned k2 k3 HqW.out HOn.out, fun a n c e => by have := k3 a n c e; have := HqW.out; omega⟩
        have hb2 : Below b w wr := HB2.out.trans (HOn.out.below (by omega) (by have := HB2.out.size; have := HP2.out.1.lt; omega))
        have hp2 := hP3
        clear hP3 HQc HOn HP2 HB2 HQ2
        obtain ⟨c, s', x, hR, hcl⟩ := runs_ex s.length s (Nat.le_refl _)
        have HA : Hid (Calls Tryd.prog 12 #[.pointer (some ⟨b, 0, none⟩), .int .i64 ((s.length : Int) + 1)] wr fun r w' => ∃ a cap, r = .returned (.tuple #[.slice a c.length cap, .int .i64 x]) ∧ Hid (Outs wr.heap.size w' (.slice a c.length cap) c ∧ Par w' b s' x ∧ Only b wr w')) := by
          have h := all_any b s s' c x (s.length + 1) wr (HE.out.below hb2 hb3') hb3' hp2 hR (by omega) (by omega) (by omega)
          have e : ((s.length + 1 : Nat) : Int) = (s.length : Int) + 1 := by omega
          rw [e] at h
          exact h
        have HR := hid hR
        have HB2 := hid hb2
        clear hp2 hb2 hR
        go_wp2_with fail
        refine HA.out.mono ?_; rintro e w3 ⟨a, cap3, rfl, hh⟩
        obtain ⟨ho3, hp3, hon3⟩ := hh.out
        have hb3 : Below b w w3 := HB2.out.trans (hon3.below (Nat.le_refl _) (by rw [Hb.out]; exact HB2.out.size))
        have HB3 := hid hb3
        have HO3 := hid ho3
        have HAl := hid (rall_any s w3 (by omega))
        clear hh ho3 hp3 hon3 hb3 HA HB2
        go_wp2_with fail
        refine HAl.out.mono ?_; rintro e w4 ⟨c4, s4, x4, p4, cap4, hR4, rfl, hh⟩
        obtain ⟨rfl, rfl, rfl⟩ := HR.out.det hR4
        obtain ⟨hro, hb4⟩ := hh.out
        have hB4 := HB3.out.trans (hb4.mono (by rw [Hb.out]; exact HB3.out.size))
        have HO4 := hid (HO3.out.kept (Kept.of_below hb4))
        have HRo := hid hro
        have HB4 := hid hB4
        have HA5 := hid (alive_any w4 (HE.out.below hB4 hb3'))
        clear hh hro hb4 hB4 hR4 HAl HO3 HB3
        go_wp2_with fail
        refine HA5.out.mono ?_; rintro e w5 ⟨rfl, hb5⟩
        have hb5' := hb5.out
        have hO5 := HO4.out.kept (Kept.of_below hb5')
        have hRo5 := HRo.out.kept (Kept.of_below hb5')
        have HSm := hid (same_any a p4 c c cap3 cap4 w5 hO5.cmds hRo5.cmds (by omega) HR.out.short)
        have HB5 := hid (HB4.out.trans (hb5'.mono (by rw [Hb.out]; exact HB4.out.size)))
        rw [decide_eq_true rfl] at HSm
        clear hb5 hb5' hO5 hRo5 HA5 HB4 HO4 HRo
        go_wp2_with fail
        refine HSm.out.mono ?_; rintro e w6 ⟨rfl, ⟨d, rfl⟩⟩
        have HB6 : Hid (Below w.heap.size w (w5.drewN d)) := by
          have := below_drawn HB5.out d
          rwa [Hb.out] at this
        clear HSm HB5
        go_wp2
        go_ret
        exact ⟨ret_bool (by simp), HB6.out⟩

end Go.Proofs.YtjcegiponjpjiaaDoor
