/- What a client is told, read: the document's Read. -/
import Derived.Test.YtpmpndfinghlkaaDoorRtRd1
import Derived.Test.YtpmpndfinghlkaaDoorRtRNum2
import Derived.Test.YtpmpndfinghlkaaDoorRtRText
import Derived.Deep.RegionHeld3
namespace Go.Proofs.YtpmpndfinghlkaaDoor
open Go.RowKit

/-- Read, on its way: its answer's place -/
structure Rq (w W : World) : Prop where
  res : W.heap[w.heap.size]? = some (.cells #[.int .i64 0, .int .i64 0, .int .i64 0, .int .i64 0] 28 (0, 0))
  bel : Below w.heap.size w W
theorem Rq.go {w W W' : World} (h : Rq w W) (hb : Below W.heap.size W W') : Rq w W' := ⟨(hb.block _ (Array.getElem?_eq_some_iff.1 h.res).1).trans h.res, h.bel.trans (hb.mono h.bel.size)⟩
set_option maxHeartbeats 8000000 in
set_option maxRecDepth 100000 in
theorem rread_any (l : List UInt8) (w : World) (hl : l.length ≤ 10000000) : Calls Tryd.prog 14 #[.string ⟨l.toArray⟩] w (LedP (readV l) w) := by
  have HQ1 : Hid (Rq w (w.alloc (.cells #[.int .i64 0, .int .i64 0, .int .i64 0, .int .i64 0] 28))) := ⟨heap_alloc_new w _, below_alloc w _⟩
  have HT := hid fun (k : Int) (V : World) (h0 : 4 ≤ k) (h1 : k ≤ 6) => rtext_any ⟨k, 0, 0, 0⟩ V ⟨show In64 k from ⟨by omega, by omega⟩, show In64 0 from ⟨by decide, by decide⟩, show In64 0 from ⟨by decide, by decide⟩, show In64 0 from ⟨by decide, by decide⟩⟩
  have HM := hid fun (V : World) => numbers_any l wMoved 5 V rfl (by decide) hl
  have HK := hid fun (V : World) => numbers_any l wAsk 3 V rfl (by decide) hl
  have HWi : Hid (∀ k : Int, 4 ≤ k → k ≤ 6 → textV ⟨k, 0, 0, 0⟩ = l → readV l = some ⟨k, 0, 0, 0⟩) := fun k h0 h1 h => word_is h0 h1 h
  have hz := infoDec
  clear hl
  go_enter Tryd.func14, Tryd.ntmps14
  go_upto_region 1 with fail
  generalize w.alloc (.cells #[.int .i64 0, .int .i64 0, .int .i64 0, .int .i64 0] 28) = w1 at *
  go_wp2_with fail
  go_loopw [4, 5] (fun v4 _ V => ∃ k : Int, v4 = .int .i64 k ∧ 4 ≤ k ∧ k ≤ 7 ∧ Hid (Rq w V) ∧ Hid (∀ j : Int, 4 ≤ j → j < k → textV ⟨j, 0, 0, 0⟩ ≠ l)) (fun v4 _ _ => (7 - intOf v4).toNat)
  case atStart => exact ⟨4, rfl, by decide, by decide, HQ1.out, fun j h0 h1 => absurd h1 (by omega)⟩
  case round =>
    obtain ⟨k, rfl, hk0, hk1, HQ, HNw⟩ := hrel
    by_cases hlt : k ≤ 6
    · obtain ⟨w2, hw2⟩ : ∃ w2, wr.alloc (.cells #[.int .i64 0, .int .i64 0, .int .i64 0, .int .i64 0] 28) = w2 := ⟨_, rfl⟩
      have HQ2 : Hid (Rq w w2) := by rw [← hw2]; exact HQ.out.go (below_alloc _ _)
      have hD2 : w2.heap[wr.heap.size]? = some (.cells #[.int .i64 0, .int .i64 0, .int .i64 0, .int .i64 0] 28 (0, 0)) := by rw [← hw2]; exact heap_alloc_new _ _
      have HD2 := hid hD2
      have HD3 : Hid ((w2.setRow wr.heap.size #[.int .i64 k, .int .i64 0, .int .i64 0, .int .i64 0]).heap[wr.heap.size]? = some (.cells #[.int .i64 k, .int .i64 0, .int .i64 0, .int .i64 0] 28 (0, 0))) := setRow_heap _ _ _ _ _ _ hD2
      have HQ3 : Hid (Rq w (w2.setRow wr.heap.size #[.int .i64 k, .int .i64 0, .int .i64 0, .int .i64 0])) :=
        ⟨(setRow_other _ _ _ _ (by have := (Array.getElem?_eq_some_iff.1 HQ.out.res).1; omega)).trans HQ2.out.res, below_setRow HQ2.out.bel HQ.out.bel.size _⟩
      have HT1 := hid (HT.out k (w2.setRow wr.heap.size #[.int .i64 k, .int .i64 0, .int .i64 0, .int .i64 0]) hk0 hlt)
      have HWk := hid (HWi.out k hk0 hlt)
      have hszne : wr.heap.size ≠ w.heap.size := by have := (Array.getElem?_eq_some_iff.1 HQ.out.res).1; omega
      clear hD2
      go_wp2_with (first | (refine wpList_store_row rfl 28 _ _ rfl wr.heap.size #[.int .i64 k, .int .i64 0, .int .i64 0, .int .i64 0] rfl rfl 28 _ HD2.out (hz ⟨k, 0, 0, 0⟩) rfl (by simp [Value.oneCell']) ?_) | (refine wpList_load_row rfl 28 _ rfl wr.heap.size rfl 28 _ (0, 0) _ HD3.out Tryd.underlying28 rfl (hz ⟨k, 0, 0, 0⟩) ?_))
      refine HT1.out.mono ?_; rintro e w4 ⟨rfl, hb⟩
      have HQ4 := hid (HQ3.out.go hb)
      have HD4 := hid ((hb.block _ (Array.getElem?_eq_some_iff.1 HD3.out).1).trans HD3.out)
      clear hb hw2 HD2 HD3 HQ2 HQ3 HT1
      by_cases he : textV ⟨k, 0, 0, 0⟩ = l
      · have hV := HWk.out he
        have HV := hid hV
        have heb : (textV ⟨k, 0, 0, 0⟩ == l) = true := by rw [he]; simp
        generalize textV ⟨k, 0, 0, 0⟩ = T at *
        clear hV he HWk HWi HT HM HK
        go_wp2_with (first | (refine wpList_load_row rfl 28 _ rfl wr.heap.size rfl 28 _ (0, 0) _ HD4.out Tryd.underlying28 rfl (hz ⟨k, 0, 0, 0⟩) ?_) | (refine wpList_store_row rfl 28 _ _ rfl w.heap.size #[.int .i64 k, .int .i64 0, .int .i64 0, .int .i64 0] rfl rfl 28 _ HQ4.out.res (hz ⟨k, 0, 0, 0⟩) rfl (by simp [Value.oneCell']) ?_))
        refine bodyPost_ret (v := .tuple #[.agg #[.int .i64 k, .int .i64 0, .int .i64 0, .int .i64 0], .bool true]) (ret_dec2 rfl ⟨k, 0, 0, 0⟩ rfl rfl (setRow_heap w4 _ _ _ _ _ HQ4.out.res)) rfl ?_
        exact led_some HV.out (below_setRow HQ4.out.bel (Nat.le_refl _) _)
      · have heb : (textV ⟨k, 0, 0, 0⟩ == l) = false := beq_eq_false_iff_ne.2 he
        have HNk : Hid (∀ j : Int, 4 ≤ j → j < k + 1 → textV ⟨j, 0, 0, 0⟩ ≠ l) := fun j h0 h1 => by
          by_cases e : j = k
          · subst e; exact he
          · exact HNw.out j h0 (by omega)
        generalize textV ⟨k, 0, 0, 0⟩ = T at *
        clear he HWk HNw
        go_wp2
        exact ⟨⟨k + 1, rfl, by omega, by omega, HQ4.out, HNk.out⟩, by simp [intOf]; omega⟩
    · have hk7 : k = 7 := by omega
      subst hk7
      have HNo := hid (no_word HNw.out)
      clear HNw HT HWi
      go_wp2_with fail
      refine (HM.out _).mono ?_; rintro e w2 ⟨hor, hb⟩
      have HQ2 := hid (HQ.out.go hb)
      have hwr := (Array.getElem?_eq_some_iff.1 HQ.out.res).1
      have hwr2 := (Array.getElem?_eq_some_iff.1 HQ2.out.res).1
      clear hb HQ HM
      rcases hor with ⟨r, L, a, c, hlr, hv, rfl, hI, hba⟩ | ⟨rfl, hn⟩
      · by_cases hL : L.length = 2
        · obtain ⟨x, y, rfl⟩ := list2 hL
          have HY := hid (moved_yes HNo.out hlr hv)
          obtain ⟨g, o, rfl, hgl, hcs⟩ := hI (by simp)
          have x0 : w2.cell? ⟨g, o, none⟩ = some (.int .i64 x) := hcs 0 (by simp)
          have x1 : w2.cell? ⟨g, o + 1, none⟩ = some (.int .i64 y) := hcs 1 (by simp)
          have hgw : g ≠ w.heap.size := by have := hba g o rfl; omega
          clear hcs hI hba hgl
          clear hL hv hlr
          by_cases hx : x ≤ 16383
          · by_cases hy : y ≤ 63
            · go_upto_region 9 with fail
              have HV : Hid (readV l = some ⟨2, x, y, 0⟩) := by unfold Hid; rw [HY.out, if_pos ⟨hx, hy⟩]
              refine wp_region_noPanic ?_
              refine wp_region_held_drew (S := fun W => W.cell? ⟨g, o, none⟩ = some (.int .i64 x) ∧ W.cell? ⟨g, o + 1, none⟩ = some (.int .i64 y)) (by kernel_rfl) ⟨x0, x1⟩ (fun hHeld => ?_)
              refine wpAnyH_take (i := 0) (oi := { dst := some 44, op := Op.move (Operand.tmp 6), type := 22, pos := "ref.go:115", after := #[], guard := none }) (v := .slice (some ⟨g, o, none⟩) 2 c) rfl (by kernel_rfl) (by kernel_rfl) (by kernel_rfl) (fun _ _ _ h => h) (Or.inl ⟨by rfl, fun wS hSw => ?_⟩) (by assumption) ?_
              · clear hHeld
                clear hSw
                go_simp
              try simp only [Act.put, List.setIfInBounds_toArray, List.set_cons_zero, List.set_cons_succ]
              refine wpAnyH_take (i := 1) (oi := { dst := some 45, op := Op.indexAddr 22 (Operand.tmp 44) (Operand.const (Value.int IntKind.i64 0)), type := 0, pos := "ref.go:115", after := #[{ on := 0, ground := Ground.data }], guard := none }) (v := .pointer (some ⟨g, o, none⟩)) rfl (by kernel_rfl) (by kernel_rfl) (by kernel_rfl) (fun _ _ _ h => h) (Or.inl ⟨by rfl, fun wS hSw => ?_⟩) (by assumption) ?_
              · clear hHeld
                clear hSw
                go_simp
              try simp only [Act.put, List.setIfInBounds_toArray, List.set_cons_zero, List.set_cons_succ]
              refine wpAnyH_take (i := 2) (oi := { dst := some 46, op := Op.load 3 (Operand.tmp 45), type := 3, pos := "ref.go:115", after := #[{ on := 1, ground := Ground.data }], guard := none }) (v := .int .i64 x) rfl (by kernel_rfl) (by kernel_rfl) (by kernel_rfl) (fun _ _ _ h => h) (Or.inl ⟨by rfl, fun wS hSw => ?_⟩) (by assumption) ?_
              · clear hHeld
                obtain ⟨y0, y1⟩ := hSw
                go_simp
              try simp only [Act.put, List.setIfInBounds_toArray, List.set_cons_zero, List.set_cons_succ]
              refine wpAnyH_take (i := 3) (oi := { dst := some 47, op := Op.move (Operand.tmp 6), type := 22, pos := "ref.go:115", after := #[], guard := none }) (v := .slice (some ⟨g, o, none⟩) 2 c) rfl (by kernel_rfl) (by kernel_rfl) (by kernel_rfl) (fun _ _ _ h => h) (Or.inl ⟨by rfl, fun wS hSw => ?_⟩) (by assumption) ?_
              · clear hHeld
                clear hSw
                go_simp
              try simp only [Act.put, List.setIfInBounds_toArray, List.set_cons_zero, List.set_cons_succ]
              refine wpAnyH_take (i := 4) (oi := { dst := some 48, op := Op.indexAddr 22 (Operand.tmp 47) (Operand.const (Value.int IntKind.i64 1)), type := 0, pos := "ref.go:115", after := #[{ on := 3, ground := Ground.data }], guard := none }) (v := .pointer (some ⟨g, o + 1, none⟩)) rfl (by kernel_rfl) (by kernel_rfl) (by kernel_rfl) (fun _ _ _ h => h) (Or.inl ⟨by rfl, fun wS hSw => ?_⟩) (by assumption) ?_
              · clear hHeld
                clear hSw
                go_simp
              try simp only [Act.put, List.setIfInBounds_toArray, List.set_cons_zero, List.set_cons_succ]
              refine wpAnyH_take (i := 5) (oi := { dst := some 49, op := Op.load 3 (Operand.tmp 48), type := 3, pos := "ref.go:115", after := #[{ on := 4, ground := Ground.data }], guard := none }) (v := .int .i64 y) rfl (by kernel_rfl) (by kernel_rfl) (by kernel_rfl) (fun _ _ _ h => h) (Or.inl ⟨by rfl, fun wS hSw => ?_⟩) (by assumption) ?_
              · clear hHeld
                obtain ⟨y0, y1⟩ := hSw
                go_simp
              try simp only [Act.put, List.setIfInBounds_toArray, List.set_cons_zero, List.set_cons_succ]
              refine wpAnyH_take (i := 6) (oi := { dst := some 50, op := Op.build 28 #[(0, Operand.const (Value.int IntKind.i64 2)), (1, Operand.tmp 46), (2, Operand.tmp 49)], type := 28, pos := "ref.go:115", after := #[{ on := 2, ground := Ground.data }, { on := 5, ground := Ground.data }], guard := none }) (v := .agg #[.int .i64 2, .int .i64 x, .int .i64 y, .int .i64 0]) rfl (by kernel_rfl) (by kernel_rfl) (by kernel_rfl) (fun _ _ _ h => h) (Or.inl ⟨by rfl, fun wS hSw => ?_⟩) (by assumption) ?_
              · clear hHeld
                have hbt := built_d3 2 x y
                clear hSw
                go_simp
              try simp only [Act.put, List.setIfInBounds_toArray, List.set_cons_zero, List.set_cons_succ]
              refine wpAnyH_ready (rs := [7]) (by kernel_rfl) (by simp) ?_
              refine AllReadyH.cons (o := { dst := none, op := Op.store 28 (Operand.tmp 2) (Operand.tmp 50), type := 0, pos := "ref.go:115", after := #[{ on := 6, ground := Ground.data }, { on := 0, ground := Ground.phase }, { on := 1, ground := Ground.phase }, { on := 2, ground := Ground.phase }, { on := 3, ground := Ground.phase }, { on := 4, ground := Ground.phase }, { on := 5, ground := Ground.phase }, { on := 6, ground := Ground.phase }], guard := none }) rfl (fun K hK => ?_) AllReadyH.nil
              refine wp_store_row 28 _ _ rfl w.heap.size #[.int .i64 2, .int .i64 x, .int .i64 y, .int .i64 0] rfl rfl 28 _ (HQ2.out.res) (hz ⟨2, x, y, 0⟩) rfl (by simp [Value.oneCell']) ?_
              have hs4 : (fun W : World => W.cell? ⟨g, o, none⟩ = some (.int .i64 x) ∧ W.cell? ⟨g, o + 1, none⟩ = some (.int .i64 y)) (w2.drew.setRow w.heap.size #[.int .i64 2, .int .i64 x, .int .i64 y, .int .i64 0]) := by
                refine ⟨?_, ?_⟩
                · exact (World.cell?_of_block (w := w2.drew) (a := ⟨g, o, none⟩) (setRow_other _ w.heap.size g _ hgw)).trans x0
                · exact (World.cell?_of_block (w := w2.drew) (a := ⟨g, o + 1, none⟩) (setRow_other _ w.heap.size g _ hgw)).trans x1
              refine hK.out _ _ hs4 (fun hHeld => ?_)
              clear hK K
              try simp only [Act.put]
              refine wpAnyH_take (i := 8) (oi := { dst := some 3, op := Op.assign (Operand.const (Value.bool true)), type := 4, pos := "ref.go:115", after := #[{ on := 7, ground := Ground.chain }, { on := 0, ground := Ground.phase }, { on := 1, ground := Ground.phase }, { on := 2, ground := Ground.phase }, { on := 3, ground := Ground.phase }, { on := 4, ground := Ground.phase }, { on := 5, ground := Ground.phase }, { on := 6, ground := Ground.phase }, { on := 7, ground := Ground.phase }], guard := none }) (v := .bool true) rfl (by kernel_rfl) (by kernel_rfl) (by kernel_rfl) (fun _ _ _ h => h) (Or.inl ⟨by rfl, fun wS hSw => ?_⟩) (by assumption) ?_
              · clear hHeld
                clear hSw
                go_simp
              try simp only [Act.put, List.setIfInBounds_toArray, List.set_cons_zero, List.set_cons_succ]
              clear hHeld
              refine wpAnyH_done (by kernel_rfl) ?_ _
              refine NoPanic.normal ?_
              go_wp2_with fail
              refine bodyPost_ret (v := .tuple #[.agg #[.int .i64 2, .int .i64 x, .int .i64 y, .int .i64 0], .bool true]) (ret_dec2 rfl ⟨2, x, y, 0⟩ rfl rfl (setRow_heap _ _ _ _ _ _ HQ2.out.res)) rfl ?_
              exact led_some HV.out (below_setRow HQ2.out.bel.drew (Nat.le_refl _) _)
            · have HMv : Hid (∀ r, l = wMoved ++ 32 :: r → readV l = none) := fun _ _ => by rw [HY.out, if_neg (fun h => hy h.2)]
              have HK1 := hid (HK.out w2)
              clear HK
              go_upto_region 10 with fail
              go_wp2_with fail
              refine HK1.out.mono ?_; rintro e w3 ⟨hor, hb3⟩
              have HQ3 := hid (HQ2.out.go hb3)
              clear hb3 HK1
              rcases hor with ⟨r, L, a, c, hlr, hv, rfl, hI, hba⟩ | ⟨rfl, hn⟩
              · by_cases hL : L.length = 3
                · obtain ⟨x, y, z, rfl⟩ := list3 hL
                  have HY := hid (ask_yes HNo.out hlr hv)
                  obtain ⟨g, o, rfl, hgl, hcs⟩ := hI (by simp)
                  have x0 : w3.cell? ⟨g, o, none⟩ = some (.int .i64 x) := hcs 0 (by simp)
                  have x1 : w3.cell? ⟨g, o + 1, none⟩ = some (.int .i64 y) := hcs 1 (by simp)
                  have x2 : w3.cell? ⟨g, o + 2, none⟩ = some (.int .i64 z) := hcs 2 (by simp)
                  have hgw : g ≠ w.heap.size := by have := hba g o rfl; omega
                  clear hcs hI hba hgl
                  clear hL hv hlr HNo HMv HQ2
                  by_cases hx : x ≤ 16383
                  · by_cases hy : y ≤ 63
                    · go_upto_region 12 with fail
                      have HV : Hid (readV l = some ⟨3, x, y, z⟩) := by unfold Hid; rw [HY.out, if_pos ⟨hx, hy⟩]
                      refine wp_region_noPanic ?_
                      refine wp_region_held_drew (S := fun W => W.cell? ⟨g, o, none⟩ = some (.int .i64 x) ∧ W.cell? ⟨g, o + 1, none⟩ = some (.int .i64 y) ∧ W.cell? ⟨g, o + 2, none⟩ = some (.int .i64 z)) (by kernel_rfl) ⟨x0, x1, x2⟩ (fun hHeld => ?_)
                      refine wpAnyH_take (i := 0) (oi := { dst := some 74, op := Op.move (Operand.tmp 8), type := 22, pos := "ref.go:119", after := #[], guard := none }) (v := .slice (some ⟨g, o, none⟩) 3 c) rfl (by kernel_rfl) (by kernel_rfl) (by kernel_rfl) (fun _ _ _ h => h) (Or.inl ⟨by rfl, fun wS hSw => ?_⟩) (by assumption) ?_
                      · clear hHeld
                        clear hSw
                        go_simp
                      try simp only [Act.put, List.setIfInBounds_toArray, List.set_cons_zero, List.set_cons_succ]
                      refine wpAnyH_take (i := 1) (oi := { dst := some 75, op := Op.indexAddr 22 (Operand.tmp 74) (Operand.const (Value.int IntKind.i64 0)), type := 0, pos := "ref.go:119", after := #[{ on := 0, ground := Ground.data }], guard := none }) (v := .pointer (some ⟨g, o, none⟩)) rfl (by kernel_rfl) (by kernel_rfl) (by kernel_rfl) (fun _ _ _ h => h) (Or.inl ⟨by rfl, fun wS hSw => ?_⟩) (by assumption) ?_
                      · clear hHeld
                        clear hSw
                        go_simp
                      try simp only [Act.put, List.setIfInBounds_toArray, List.set_cons_zero, List.set_cons_succ]
                      refine wpAnyH_take (i := 2) (oi := { dst := some 76, op := Op.load 3 (Operand.tmp 75), type := 3, pos := "ref.go:119", after := #[{ on := 1, ground := Ground.data }], guard := none }) (v := .int .i64 x) rfl (by kernel_rfl) (by kernel_rfl) (by kernel_rfl) (fun _ _ _ h => h) (Or.inl ⟨by rfl, fun wS hSw => ?_⟩) (by assumption) ?_
                      · clear hHeld
                        obtain ⟨y0, y1, y2⟩ := hSw
                        go_simp
                      try simp only [Act.put, List.setIfInBounds_toArray, List.set_cons_zero, List.set_cons_succ]
                      refine wpAnyH_take (i := 3) (oi := { dst := some 77, op := Op.move (Operand.tmp 8), type := 22, pos := "ref.go:119", after := #[], guard := none }) (v := .slice (some ⟨g, o, none⟩) 3 c) rfl (by kernel_rfl) (by kernel_rfl) (by kernel_rfl) (fun _ _ _ h => h) (Or.inl ⟨by rfl, fun wS hSw => ?_⟩) (by assumption) ?_
                      · clear hHeld
                        clear hSw
                        go_simp
                      try simp only [Act.put, List.setIfInBounds_toArray, List.set_cons_zero, List.set_cons_succ]
                      refine wpAnyH_take (i := 4) (oi := { dst := some 78, op := Op.indexAddr 22 (Operand.tmp 77) (Operand.const (Value.int IntKind.i64 1)), type := 0, pos := "ref.go:119", after := #[{ on := 3, ground := Ground.data }], guard := none }) (v := .pointer (some ⟨g, o + 1, none⟩)) rfl (by kernel_rfl) (by kernel_rfl) (by kernel_rfl) (fun _ _ _ h => h) (Or.inl ⟨by rfl, fun wS hSw => ?_⟩) (by assumption) ?_
                      · clear hHeld
                        clear hSw
                        go_simp
                      try simp only [Act.put, List.setIfInBounds_toArray, List.set_cons_zero, List.set_cons_succ]
                      refine wpAnyH_take (i := 5) (oi := { dst := some 79, op := Op.load 3 (Operand.tmp 78), type := 3, pos := "ref.go:119", after := #[{ on := 4, ground := Ground.data }], guard := none }) (v := .int .i64 y) rfl (by kernel_rfl) (by kernel_rfl) (by kernel_rfl) (fun _ _ _ h => h) (Or.inl ⟨by rfl, fun wS hSw => ?_⟩) (by assumption) ?_
                      · clear hHeld
                        obtain ⟨y0, y1, y2⟩ := hSw
                        go_simp
                      try simp only [Act.put, List.setIfInBounds_toArray, List.set_cons_zero, List.set_cons_succ]
                      refine wpAnyH_take (i := 6) (oi := { dst := some 80, op := Op.move (Operand.tmp 8), type := 22, pos := "ref.go:119", after := #[], guard := none }) (v := .slice (some ⟨g, o, none⟩) 3 c) rfl (by kernel_rfl) (by kernel_rfl) (by kernel_rfl) (fun _ _ _ h => h) (Or.inl ⟨by rfl, fun wS hSw => ?_⟩) (by assumption) ?_
                      · clear hHeld
                        clear hSw
                        go_simp
                      try simp only [Act.put, List.setIfInBounds_toArray, List.set_cons_zero, List.set_cons_succ]
                      refine wpAnyH_take (i := 7) (oi := { dst := some 81, op := Op.indexAddr 22 (Operand.tmp 80) (Operand.const (Value.int IntKind.i64 2)), type := 0, pos := "ref.go:119", after := #[{ on := 6, ground := Ground.data }], guard := none }) (v := .pointer (some ⟨g, o + 2, none⟩)) rfl (by kernel_rfl) (by kernel_rfl) (by kernel_rfl) (fun _ _ _ h => h) (Or.inl ⟨by rfl, fun wS hSw => ?_⟩) (by assumption) ?_
                      · clear hHeld
                        clear hSw
                        go_simp
                      try simp only [Act.put, List.setIfInBounds_toArray, List.set_cons_zero, List.set_cons_succ]
                      refine wpAnyH_take (i := 8) (oi := { dst := some 82, op := Op.load 3 (Operand.tmp 81), type := 3, pos := "ref.go:119", after := #[{ on := 7, ground := Ground.data }], guard := none }) (v := .int .i64 z) rfl (by kernel_rfl) (by kernel_rfl) (by kernel_rfl) (fun _ _ _ h => h) (Or.inl ⟨by rfl, fun wS hSw => ?_⟩) (by assumption) ?_
                      · clear hHeld
                        obtain ⟨y0, y1, y2⟩ := hSw
                        go_simp
                      try simp only [Act.put, List.setIfInBounds_toArray, List.set_cons_zero, List.set_cons_succ]
                      refine wpAnyH_take (i := 9) (oi := { dst := some 83, op := Op.build 28 #[(0, Operand.const (Value.int IntKind.i64 3)), (1, Operand.tmp 76), (2, Operand.tmp 79), (3, Operand.tmp 82)], type := 28, pos := "ref.go:119", after := #[{ on := 2, ground := Ground.data }, { on := 5, ground := Ground.data }, { on := 8, ground := Ground.data }], guard := none }) (v := .agg #[.int .i64 3, .int .i64 x, .int .i64 y, .int .i64 z]) rfl (by kernel_rfl) (by kernel_rfl) (by kernel_rfl) (fun _ _ _ h => h) (Or.inl ⟨by rfl, fun wS hSw => ?_⟩) (by assumption) ?_
                      · clear hHeld
                        have hbt := built_d4 3 x y z
                        clear hSw
                        go_simp
                      try simp only [Act.put, List.setIfInBounds_toArray, List.set_cons_zero, List.set_cons_succ]
                      refine wpAnyH_ready (rs := [10]) (by kernel_rfl) (by simp) ?_
                      refine AllReadyH.cons (o := { dst := none, op := Op.store 28 (Operand.tmp 2) (Operand.tmp 83), type := 0, pos := "ref.go:119", after := #[{ on := 9, ground := Ground.data }, { on := 0, ground := Ground.phase }, { on := 1, ground := Ground.phase }, { on := 2, ground := Ground.phase }, { on := 3, ground := Ground.phase }, { on := 4, ground := Ground.phase }, { on := 5, ground := Ground.phase }, { on := 6, ground := Ground.phase }, { on := 7, ground := Ground.phase }, { on := 8, ground := Ground.phase }, { on := 9, ground := Ground.phase }], guard := none }) rfl (fun K hK => ?_) AllReadyH.nil
                      refine wp_store_row 28 _ _ rfl w.heap.size #[.int .i64 3, .int .i64 x, .int .i64 y, .int .i64 z] rfl rfl 28 _ (HQ3.out.res) (hz ⟨3, x, y, z⟩) rfl (by simp [Value.oneCell']) ?_
                      have hs4 : (fun W : World => W.cell? ⟨g, o, none⟩ = some (.int .i64 x) ∧ W.cell? ⟨g, o + 1, none⟩ = some (.int .i64 y) ∧ W.cell? ⟨g, o + 2, none⟩ = some (.int .i64 z)) (w3.drew.setRow w.heap.size #[.int .i64 3, .int .i64 x, .int .i64 y, .int .i64 z]) := by
                        refine ⟨?_, ?_, ?_⟩
                        · exact (World.cell?_of_block (w := w3.drew) (a := ⟨g, o, none⟩) (setRow_other _ w.heap.size g _ hgw)).trans x0
                        · exact (World.cell?_of_block (w := w3.drew) (a := ⟨g, o + 1, none⟩) (setRow_other _ w.heap.size g _ hgw)).trans x1
                        · exact (World.cell?_of_block (w := w3.drew) (a := ⟨g, o + 2, none⟩) (setRow_other _ w.heap.size g _ hgw)).trans x2
                      refine hK.out _ _ hs4 (fun hHeld => ?_)
                      clear hK K
                      try simp only [Act.put]
                      refine wpAnyH_take (i := 11) (oi := { dst := some 3, op := Op.assign (Operand.const (Value.bool true)), type := 4, pos := "ref.go:119", after := #[{ on := 10, ground := Ground.chain }, { on := 0, ground := Ground.phase }, { on := 1, ground := Ground.phase }, { on := 2, ground := Ground.phase }, { on := 3, ground := Ground.phase }, { on := 4, ground := Ground.phase }, { on := 5, ground := Ground.phase }, { on := 6, ground := Ground.phase }, { on := 7, ground := Ground.phase }, { on := 8, ground := Ground.phase }, { on := 9, ground := Ground.phase }, { on := 10, ground := Ground.phase }], guard := none }) (v := .bool true) rfl (by kernel_rfl) (by kernel_rfl) (by kernel_rfl) (fun _ _ _ h => h) (Or.inl ⟨by rfl, fun wS hSw => ?_⟩) (by assumption) ?_
                      · clear hHeld
                        clear hSw
                        go_simp
                      try simp only [Act.put, List.setIfInBounds_toArray, List.set_cons_zero, List.set_cons_succ]
                      clear hHeld
                      refine wpAnyH_done (by kernel_rfl) ?_ _
                      refine NoPanic.normal ?_
                      go_wp2_with fail
                      refine bodyPost_ret (v := .tuple #[.agg #[.int .i64 3, .int .i64 x, .int .i64 y, .int .i64 z], .bool true]) (ret_dec2 rfl ⟨3, x, y, z⟩ rfl rfl (setRow_heap _ _ _ _ _ _ HQ3.out.res)) rfl ?_
                      exact led_some HV.out (below_setRow HQ3.out.bel.drew (Nat.le_refl _) _)
                    · skip
                      have HV : Hid (readV l = none) := by unfold Hid; rw [HY.out, if_neg (fun h => hy h.2)]
                      go_wp2_with (refine wpList_store_row rfl 28 _ _ rfl w.heap.size #[.int .i64 0, .int .i64 0, .int .i64 0, .int .i64 0] rfl rfl 28 _ HQ3.out.res (hz ⟨0, 0, 0, 0⟩) rfl (by simp [Value.oneCell']) ?_)
                      refine bodyPost_ret (v := .tuple #[.agg #[.int .i64 0, .int .i64 0, .int .i64 0, .int .i64 0], .bool false]) (ret_dec2 rfl ⟨0, 0, 0, 0⟩ rfl rfl (setRow_heap _ _ _ _ _ _ HQ3.out.res)) rfl ?_
                      exact led_none HV.out (below_setRow HQ3.out.bel (Nat.le_refl _) _)
                  · skip
                    have HV : Hid (readV l = none) := by unfold Hid; rw [HY.out, if_neg (fun h => hx h.1)]
                    go_wp2_with (refine wpList_store_row rfl 28 _ _ rfl w.heap.size #[.int .i64 0, .int .i64 0, .int .i64 0, .int .i64 0] rfl rfl 28 _ HQ3.out.res (hz ⟨0, 0, 0, 0⟩) rfl (by simp [Value.oneCell']) ?_)
                    refine bodyPost_ret (v := .tuple #[.agg #[.int .i64 0, .int .i64 0, .int .i64 0, .int .i64 0], .bool false]) (ret_dec2 rfl ⟨0, 0, 0, 0⟩ rfl rfl (setRow_heap _ _ _ _ _ _ HQ3.out.res)) rfl ?_
                    exact led_none HV.out (below_setRow HQ3.out.bel (Nat.le_refl _) _)
                · have hLz : ((L.length : Int) == 3) = false := beq_eq_false_iff_ne.2 (by omega)
                  have HNn := hid (ask_len HNo.out hlr hv hL)
                  clear hL hv hlr HNo HMv HQ2 hI hba
                  have HV : Hid (readV l = none) := HNn.out
                  go_wp2_with (refine wpList_store_row rfl 28 _ _ rfl w.heap.size #[.int .i64 0, .int .i64 0, .int .i64 0, .int .i64 0] rfl rfl 28 _ HQ3.out.res (hz ⟨0, 0, 0, 0⟩) rfl (by simp [Value.oneCell']) ?_)
                  refine bodyPost_ret (v := .tuple #[.agg #[.int .i64 0, .int .i64 0, .int .i64 0, .int .i64 0], .bool false]) (ret_dec2 rfl ⟨0, 0, 0, 0⟩ rfl rfl (setRow_heap _ _ _ _ _ _ HQ3.out.res)) rfl ?_
                  exact led_none HV.out (below_setRow HQ3.out.bel (Nat.le_refl _) _)
              · have HNn : Hid (readV l = none) := by
                  by_cases hm : ∃ r, l = wMoved ++ 32 :: r
                  · obtain ⟨r, hr⟩ := hm
                    exact HMv.out r hr
                  · by_cases ha : ∃ r, l = wAsk ++ 32 :: r
                    · obtain ⟨r, hr⟩ := ha
                      exact ask_no HNo.out hr (hn r hr)
                    · exact neither HNo.out (fun r h => hm ⟨r, h⟩) (fun r h => ha ⟨r, h⟩)
                clear hn HNo HMv HQ2
                have HV : Hid (readV l = none) := HNn.out
                go_wp2_with (refine wpList_store_row rfl 28 _ _ rfl w.heap.size #[.int .i64 0, .int .i64 0, .int .i64 0, .int .i64 0] rfl rfl 28 _ HQ3.out.res (hz ⟨0, 0, 0, 0⟩) rfl (by simp [Value.oneCell']) ?_)
                refine bodyPost_ret (v := .tuple #[.agg #[.int .i64 0, .int .i64 0, .int .i64 0, .int .i64 0], .bool false]) (ret_dec2 rfl ⟨0, 0, 0, 0⟩ rfl rfl (setRow_heap _ _ _ _ _ _ HQ3.out.res)) rfl ?_
                exact led_none HV.out (below_setRow HQ3.out.bel (Nat.le_refl _) _)
          · have HMv : Hid (∀ r, l = wMoved ++ 32 :: r → readV l = none) := fun _ _ => by rw [HY.out, if_neg (fun h => hx h.1)]
            have HK1 := hid (HK.out w2)
            clear HK
            go_upto_region 10 with fail
            go_wp2_with fail
            refine HK1.out.mono ?_; rintro e w3 ⟨hor, hb3⟩
            have HQ3 := hid (HQ2.out.go hb3)
            clear hb3 HK1
            rcases hor with ⟨r, L, a, c, hlr, hv, rfl, hI, hba⟩ | ⟨rfl, hn⟩
            · by_cases hL : L.length = 3
              · obtain ⟨x, y, z, rfl⟩ := list3 hL
                have HY := hid (ask_yes HNo.out hlr hv)
                obtain ⟨g, o, rfl, hgl, hcs⟩ := hI (by simp)
                have x0 : w3.cell? ⟨g, o, none⟩ = some (.int .i64 x) := hcs 0 (by simp)
                have x1 : w3.cell? ⟨g, o + 1, none⟩ = some (.int .i64 y) := hcs 1 (by simp)
                have x2 : w3.cell? ⟨g, o + 2, none⟩ = some (.int .i64 z) := hcs 2 (by simp)
                have hgw : g ≠ w.heap.size := by have := hba g o rfl; omega
                clear hcs hI hba hgl
                clear hL hv hlr HNo HMv HQ2
                by_cases hx : x ≤ 16383
                · by_cases hy : y ≤ 63
                  · go_upto_region 12 with fail
                    have HV : Hid (readV l = some ⟨3, x, y, z⟩) := by unfold Hid; rw [HY.out, if_pos ⟨hx, hy⟩]
                    refine wp_region_noPanic ?_
                    refine wp_region_held_drew (S := fun W => W.cell? ⟨g, o, none⟩ = some (.int .i64 x) ∧ W.cell? ⟨g, o + 1, none⟩ = some (.int .i64 y) ∧ W.cell? ⟨g, o + 2, none⟩ = some (.int .i64 z)) (by kernel_rfl) ⟨x0, x1, x2⟩ (fun hHeld => ?_)
                    refine wpAnyH_take (i := 0) (oi := { dst := some 74, op := Op.move (Operand.tmp 8), type := 22, pos := "ref.go:119", after := #[], guard := none }) (v := .slice (some ⟨g, o, none⟩) 3 c) rfl (by kernel_rfl) (by kernel_rfl) (by kernel_rfl) (fun _ _ _ h => h) (Or.inl ⟨by rfl, fun wS hSw => ?_⟩) (by assumption) ?_
                    · clear hHeld
                      clear hSw
                      go_simp
                    try simp only [Act.put, List.setIfInBounds_toArray, List.set_cons_zero, List.set_cons_succ]
                    refine wpAnyH_take (i := 1) (oi := { dst := some 75, op := Op.indexAddr 22 (Operand.tmp 74) (Operand.const (Value.int IntKind.i64 0)), type := 0, pos := "ref.go:119", after := #[{ on := 0, ground := Ground.data }], guard := none }) (v := .pointer (some ⟨g, o, none⟩)) rfl (by kernel_rfl) (by kernel_rfl) (by kernel_rfl) (fun _ _ _ h => h) (Or.inl ⟨by rfl, fun wS hSw => ?_⟩) (by assumption) ?_
                    · clear hHeld
                      clear hSw
                      go_simp
                    try simp only [Act.put, List.setIfInBounds_toArray, List.set_cons_zero, List.set_cons_succ]
                    refine wpAnyH_take (i := 2) (oi := { dst := some 76, op := Op.load 3 (Operand.tmp 75), type := 3, pos := "ref.go:119", after := #[{ on := 1, ground := Ground.data }], guard := none }) (v := .int .i64 x) rfl (by kernel_rfl) (by kernel_rfl) (by kernel_rfl) (fun _ _ _ h => h) (Or.inl ⟨by rfl, fun wS hSw => ?_⟩) (by assumption) ?_
                    · clear hHeld
                      obtain ⟨y0, y1, y2⟩ := hSw
                      go_simp
                    try simp only [Act.put, List.setIfInBounds_toArray, List.set_cons_zero, List.set_cons_succ]
                    refine wpAnyH_take (i := 3) (oi := { dst := some 77, op := Op.move (Operand.tmp 8), type := 22, pos := "ref.go:119", after := #[], guard := none }) (v := .slice (some ⟨g, o, none⟩) 3 c) rfl (by kernel_rfl) (by kernel_rfl) (by kernel_rfl) (fun _ _ _ h => h) (Or.inl ⟨by rfl, fun wS hSw => ?_⟩) (by assumption) ?_
                    · clear hHeld
                      clear hSw
                      go_simp
                    try simp only [Act.put, List.setIfInBounds_toArray, List.set_cons_zero, List.set_cons_succ]
                    refine wpAnyH_take (i := 4) (oi := { dst := some 78, op := Op.indexAddr 22 (Operand.tmp 77) (Operand.const (Value.int IntKind.i64 1)), type := 0, pos := "ref.go:119", after := #[{ on := 3, ground := Ground.data }], guard := none }) (v := .pointer (some ⟨g, o + 1, none⟩)) rfl (by kernel_rfl) (by kernel_rfl) (by kernel_rfl) (fun _ _ _ h => h) (Or.inl ⟨by rfl, fun wS hSw => ?_⟩) (by assumption) ?_
                    · clear hHeld
                      clear hSw
                      go_simp
                    try simp only [Act.put, List.setIfInBounds_toArray, List.set_cons_zero, List.set_cons_succ]
                    refine wpAnyH_take (i := 5) (oi := { dst := some 79, op := Op.load 3 (Operand.tmp 78), type := 3, pos := "ref.go:119", after := #[{ on := 4, ground := Ground.data }], guard := none }) (v := .int .i64 y) rfl (by kernel_rfl) (by kernel_rfl) (by kernel_rfl) (fun _ _ _ h => h) (Or.inl ⟨by rfl, fun wS hSw => ?_⟩) (by assumption) ?_
                    · clear hHeld
                      obtain ⟨y0, y1, y2⟩ := hSw
                      go_simp
                    try simp only [Act.put, List.setIfInBounds_toArray, List.set_cons_zero, List.set_cons_succ]
                    refine wpAnyH_take (i := 6) (oi := { dst := some 80, op := Op.move (Operand.tmp 8), type := 22, pos := "ref.go:119", after := #[], guard := none }) (v := .slice (some ⟨g, o, none⟩) 3 c) rfl (by kernel_rfl) (by kernel_rfl) (by kernel_rfl) (fun _ _ _ h => h) (Or.inl ⟨by rfl, fun wS hSw => ?_⟩) (by assumption) ?_
                    · clear hHeld
                      clear hSw
                      go_simp
                    try simp only [Act.put, List.setIfInBounds_toArray, List.set_cons_zero, List.set_cons_succ]
                    refine wpAnyH_take (i := 7) (oi := { dst := some 81, op := Op.indexAddr 22 (Operand.tmp 80) (Operand.const (Value.int IntKind.i64 2)), type := 0, pos := "ref.go:119", after := #[{ on := 6, ground := Ground.data }], guard := none }) (v := .pointer (some ⟨g, o + 2, none⟩)) rfl (by kernel_rfl) (by kernel_rfl) (by kernel_rfl) (fun _ _ _ h => h) (Or.inl ⟨by rfl, fun wS hSw => ?_⟩) (by assumption) ?_
                    · clear hHeld
                      clear hSw
                      go_simp
                    try simp only [Act.put, List.setIfInBounds_toArray, List.set_cons_zero, List.set_cons_succ]
                    refine wpAnyH_take (i := 8) (oi := { dst := some 82, op := Op.load 3 (Operand.tmp 81), type := 3, pos := "ref.go:119", after := #[{ on := 7, ground := Ground.data }], guard := none }) (v := .int .i64 z) rfl (by kernel_rfl) (by kernel_rfl) (by kernel_rfl) (fun _ _ _ h => h) (Or.inl ⟨by rfl, fun wS hSw => ?_⟩) (by assumption) ?_
                    · clear hHeld
                      obtain ⟨y0, y1, y2⟩ := hSw
                      go_simp
                    try simp only [Act.put, List.setIfInBounds_toArray, List.set_cons_zero, List.set_cons_succ]
                    refine wpAnyH_take (i := 9) (oi := { dst := some 83, op := Op.build 28 #[(0, Operand.const (Value.int IntKind.i64 3)), (1, Operand.tmp 76), (2, Operand.tmp 79), (3, Operand.tmp 82)], type := 28, pos := "ref.go:119", after := #[{ on := 2, ground := Ground.data }, { on := 5, ground := Ground.data }, { on := 8, ground := Ground.data }], guard := none }) (v := .agg #[.int .i64 3, .int .i64 x, .int .i64 y, .int .i64 z]) rfl (by kernel_rfl) (by kernel_rfl) (by kernel_rfl) (fun _ _ _ h => h) (Or.inl ⟨by rfl, fun wS hSw => ?_⟩) (by assumption) ?_
                    · clear hHeld
                      have hbt := built_d4 3 x y z
                      clear hSw
                      go_simp
                    try simp only [Act.put, List.setIfInBounds_toArray, List.set_cons_zero, List.set_cons_succ]
                    refine wpAnyH_ready (rs := [10]) (by kernel_rfl) (by simp) ?_
                    refine AllReadyH.cons (o := { dst := none, op := Op.store 28 (Operand.tmp 2) (Operand.tmp 83), type := 0, pos := "ref.go:119", after := #[{ on := 9, ground := Ground.data }, { on := 0, ground := Ground.phase }, { on := 1, ground := Ground.phase }, { on := 2, ground := Ground.phase }, { on := 3, ground := Ground.phase }, { on := 4, ground := Ground.phase }, { on := 5, ground := Ground.phase }, { on := 6, ground := Ground.phase }, { on := 7, ground := Ground.phase }, { on := 8, ground := Ground.phase }, { on := 9, ground := Ground.phase }], guard := none }) rfl (fun K hK => ?_) AllReadyH.nil
                    refine wp_store_row 28 _ _ rfl w.heap.size #[.int .i64 3, .int .i64 x, .int .i64 y, .int .i64 z] rfl rfl 28 _ (HQ3.out.res) (hz ⟨3, x, y, z⟩) rfl (by simp [Value.oneCell']) ?_
                    have hs4 : (fun W : World => W.cell? ⟨g, o, none⟩ = some (.int .i64 x) ∧ W.cell? ⟨g, o + 1, none⟩ = some (.int .i64 y) ∧ W.cell? ⟨g, o + 2, none⟩ = some (.int .i64 z)) (w3.drew.setRow w.heap.size #[.int .i64 3, .int .i64 x, .int .i64 y, .int .i64 z]) := by
                      refine ⟨?_, ?_, ?_⟩
                      · exact (World.cell?_of_block (w := w3.drew) (a := ⟨g, o, none⟩) (setRow_other _ w.heap.size g _ hgw)).trans x0
                      · exact (World.cell?_of_block (w := w3.drew) (a := ⟨g, o + 1, none⟩) (setRow_other _ w.heap.size g _ hgw)).trans x1
                      · exact (World.cell?_of_block (w := w3.drew) (a := ⟨g, o + 2, none⟩) (setRow_other _ w.heap.size g _ hgw)).trans x2
                    refine hK.out _ _ hs4 (fun hHeld => ?_)
                    clear hK K
                    try simp only [Act.put]
                    refine wpAnyH_take (i := 11) (oi := { dst := some 3, op := Op.assign (Operand.const (Value.bool true)), type := 4, pos := "ref.go:119", after := #[{ on := 10, ground := Ground.chain }, { on := 0, ground := Ground.phase }, { on := 1, ground := Ground.phase }, { on := 2, ground := Ground.phase }, { on := 3, ground := Ground.phase }, { on := 4, ground := Ground.phase }, { on := 5, ground := Ground.phase }, { on := 6, ground := Ground.phase }, { on := 7, ground := Ground.phase }, { on := 8, ground := Ground.phase }, { on := 9, ground := Ground.phase }, { on := 10, ground := Ground.phase }], guard := none }) (v := .bool true) rfl (by kernel_rfl) (by kernel_rfl) (by kernel_rfl) (fun _ _ _ h => h) (Or.inl ⟨by rfl, fun wS hSw => ?_⟩) (by assumption) ?_
                    · clear hHeld
                      clear hSw
                      go_simp
                    try simp only [Act.put, List.setIfInBounds_toArray, List.set_cons_zero, List.set_cons_succ]
                    clear hHeld
                    refine wpAnyH_done (by kernel_rfl) ?_ _
                    refine NoPanic.normal ?_
                    go_wp2_with fail
                    refine bodyPost_ret (v := .tuple #[.agg #[.int .i64 3, .int .i64 x, .int .i64 y, .int .i64 z], .bool true]) (ret_dec2 rfl ⟨3, x, y, z⟩ rfl rfl (setRow_heap _ _ _ _ _ _ HQ3.out.res)) rfl ?_
                    exact led_some HV.out (below_setRow HQ3.out.bel.drew (Nat.le_refl _) _)
                  · skip
                    have HV : Hid (readV l = none) := by unfold Hid; rw [HY.out, if_neg (fun h => hy h.2)]
                    go_wp2_with (refine wpList_store_row rfl 28 _ _ rfl w.heap.size #[.int .i64 0, .int .i64 0, .int .i64 0, .int .i64 0] rfl rfl 28 _ HQ3.out.res (hz ⟨0, 0, 0, 0⟩) rfl (by simp [Value.oneCell']) ?_)
                    refine bodyPost_ret (v := .tuple #[.agg #[.int .i64 0, .int .i64 0, .int .i64 0, .int .i64 0], .bool false]) (ret_dec2 rfl ⟨0, 0, 0, 0⟩ rfl rfl (setRow_heap _ _ _ _ _ _ HQ3.out.res)) rfl ?_
                    exact led_none HV.out (below_setRow HQ3.out.bel (Nat.le_refl _) _)
                · skip
                  have HV : Hid (readV l = none) := by unfold Hid; rw [HY.out, if_neg (fun h => hx h.1)]
                  go_wp2_with (refine wpList_store_row rfl 28 _ _ rfl w.heap.size #[.int .i64 0, .int .i64 0, .int .i64 0, .int .i64 0] rfl rfl 28 _ HQ3.out.res (hz ⟨0, 0, 0, 0⟩) rfl (by simp [Value.oneCell']) ?_)
                  refine bodyPost_ret (v := .tuple #[.agg #[.int .i64 0, .int .i64 0, .int .i64 0, .int .i64 0], .bool false]) (ret_dec2 rfl ⟨0, 0, 0, 0⟩ rfl rfl (setRow_heap _ _ _ _ _ _ HQ3.out.res)) rfl ?_
                  exact led_none HV.out (below_setRow HQ3.out.bel (Nat.le_refl _) _)
              · have hLz : ((L.length : Int) == 3) = false := beq_eq_false_iff_ne.2 (by omega)
                have HNn := hid (ask_len HNo.out hlr hv hL)
                clear hL hv hlr HNo HMv HQ2 hI hba
                have HV : Hid (readV l = none) := HNn.out
                go_wp2_with (refine wpList_store_row rfl 28 _ _ rfl w.heap.size #[.int .i64 0, .int .i64 0, .int .i64 0, .int .i64 0] rfl rfl 28 _ HQ3.out.res (hz ⟨0, 0, 0, 0⟩) rfl (by simp [Value.oneCell']) ?_)
                refine bodyPost_ret (v := .tuple #[.agg #[.int .i64 0, .int .i64 0, .int .i64 0, .int .i64 0], .bool false]) (ret_dec2 rfl ⟨0, 0, 0, 0⟩ rfl rfl (setRow_heap _ _ _ _ _ _ HQ3.out.res)) rfl ?_
                exact led_none HV.out (below_setRow HQ3.out.bel (Nat.le_refl _) _)
            · have HNn : Hid (readV l = none) := by
                by_cases hm : ∃ r, l = wMoved ++ 32 :: r
                · obtain ⟨r, hr⟩ := hm
                  exact HMv.out r hr
                · by_cases ha : ∃ r, l = wAsk ++ 32 :: r
                  · obtain ⟨r, hr⟩ := ha
                    exact ask_no HNo.out hr (hn r hr)
                  · exact neither HNo.out (fun r h => hm ⟨r, h⟩) (fun r h => ha ⟨r, h⟩)
              clear hn HNo HMv HQ2
              have HV : Hid (readV l = none) := HNn.out
              go_wp2_with (refine wpList_store_row rfl 28 _ _ rfl w.heap.size #[.int .i64 0, .int .i64 0, .int .i64 0, .int .i64 0] rfl rfl 28 _ HQ3.out.res (hz ⟨0, 0, 0, 0⟩) rfl (by simp [Value.oneCell']) ?_)
              refine bodyPost_ret (v := .tuple #[.agg #[.int .i64 0, .int .i64 0, .int .i64 0, .int .i64 0], .bool false]) (ret_dec2 rfl ⟨0, 0, 0, 0⟩ rfl rfl (setRow_heap _ _ _ _ _ _ HQ3.out.res)) rfl ?_
              exact led_none HV.out (below_setRow HQ3.out.bel (Nat.le_refl _) _)
        · have hLz : ((L.length : Int) == 2) = false := beq_eq_false_iff_ne.2 (by omega)
          have HMv : Hid (∀ r, l = wMoved ++ 32 :: r → readV l = none) := fun _ _ => moved_len HNo.out hlr hv hL
          clear hL hv hlr hI hba
          have HK1 := hid (HK.out w2)
          clear HK
          go_upto_region 10 with fail
          go_wp2_with fail
          refine HK1.out.mono ?_; rintro e w3 ⟨hor, hb3⟩
          have HQ3 := hid (HQ2.out.go hb3)
          clear hb3 HK1
          rcases hor with ⟨r, L, a, c, hlr, hv, rfl, hI, hba⟩ | ⟨rfl, hn⟩
          · by_cases hL : L.length = 3
            · obtain ⟨x, y, z, rfl⟩ := list3 hL
              have HY := hid (ask_yes HNo.out hlr hv)
              obtain ⟨g, o, rfl, hgl, hcs⟩ := hI (by simp)
              have x0 : w3.cell? ⟨g, o, none⟩ = some (.int .i64 x) := hcs 0 (by simp)
              have x1 : w3.cell? ⟨g, o + 1, none⟩ = some (.int .i64 y) := hcs 1 (by simp)
              have x2 : w3.cell? ⟨g, o + 2, none⟩ = some (.int .i64 z) := hcs 2 (by simp)
              have hgw : g ≠ w.heap.size := by have := hba g o rfl; omega
              clear hcs hI hba hgl
              clear hL hv hlr HNo HMv HQ2
              by_cases hx : x ≤ 16383
              · by_cases hy : y ≤ 63
                · go_upto_region 12 with fail
                  have HV : Hid (readV l = some ⟨3, x, y, z⟩) := by unfold Hid; rw [HY.out, if_pos ⟨hx, hy⟩]
                  refine wp_region_noPanic ?_
                  refine wp_region_held_drew (S := fun W => W.cell? ⟨g, o, none⟩ = some (.int .i64 x) ∧ W.cell? ⟨g, o + 1, none⟩ = some (.int .i64 y) ∧ W.cell? ⟨g, o + 2, none⟩ = some (.int .i64 z)) (by kernel_rfl) ⟨x0, x1, x2⟩ (fun hHeld => ?_)
                  refine wpAnyH_take (i := 0) (oi := { dst := some 74, op := Op.move (Operand.tmp 8), type := 22, pos := "ref.go:119", after := #[], guard := none }) (v := .slice (some ⟨g, o, none⟩) 3 c) rfl (by kernel_rfl) (by kernel_rfl) (by kernel_rfl) (fun _ _ _ h => h) (Or.inl ⟨by rfl, fun wS hSw => ?_⟩) (by assumption) ?_
                  · clear hHeld
                    clear hSw
                    go_simp
                  try simp only [Act.put, List.setIfInBounds_toArray, List.set_cons_zero, List.set_cons_succ]
                  refine wpAnyH_take (i := 1) (oi := { dst := some 75, op := Op.indexAddr 22 (Operand.tmp 74) (Operand.const (Value.int IntKind.i64 0)), type := 0, pos := "ref.go:119", after := #[{ on := 0, ground := Ground.data }], guard := none }) (v := .pointer (some ⟨g, o, none⟩)) rfl (by kernel_rfl) (by kernel_rfl) (by kernel_rfl) (fun _ _ _ h => h) (Or.inl ⟨by rfl, fun wS hSw => ?_⟩) (by assumption) ?_
                  · clear hHeld
                    clear hSw
                    go_simp
                  try simp only [Act.put, List.setIfInBounds_toArray, List.set_cons_zero, List.set_cons_succ]
                  refine wpAnyH_take (i := 2) (oi := { dst := some 76, op := Op.load 3 (Operand.tmp 75), type := 3, pos := "ref.go:119", after := #[{ on := 1, ground := Ground.data }], guard := none }) (v := .int .i64 x) rfl (by kernel_rfl) (by kernel_rfl) (by kernel_rfl) (fun _ _ _ h => h) (Or.inl ⟨by rfl, fun wS hSw => ?_⟩) (by assumption) ?_
                  · clear hHeld
                    obtain ⟨y0, y1, y2⟩ := hSw
                    go_simp
                  try simp only [Act.put, List.setIfInBounds_toArray, List.set_cons_zero, List.set_cons_succ]
                  refine wpAnyH_take (i := 3) (oi := { dst := some 77, op := Op.move (Operand.tmp 8), type := 22, pos := "ref.go:119", after := #[], guard := none }) (v := .slice (some ⟨g, o, none⟩) 3 c) rfl (by kernel_rfl) (by kernel_rfl) (by kernel_rfl) (fun _ _ _ h => h) (Or.inl ⟨by rfl, fun wS hSw => ?_⟩) (by assumption) ?_
                  · clear hHeld
                    clear hSw
                    go_simp
                  try simp only [Act.put, List.setIfInBounds_toArray, List.set_cons_zero, List.set_cons_succ]
                  refine wpAnyH_take (i := 4) (oi := { dst := some 78, op := Op.indexAddr 22 (Operand.tmp 77) (Operand.const (Value.int IntKind.i64 1)), type := 0, pos := "ref.go:119", after := #[{ on := 3, ground := Ground.data }], guard := none }) (v := .pointer (some ⟨g, o + 1, none⟩)) rfl (by kernel_rfl) (by kernel_rfl) (by kernel_rfl) (fun _ _ _ h => h) (Or.inl ⟨by rfl, fun wS hSw => ?_⟩) (by assumption) ?_
                  · clear hHeld
                    clear hSw
                    go_simp
                  try simp only [Act.put, List.setIfInBounds_toArray, List.set_cons_zero, List.set_cons_succ]
                  refine wpAnyH_take (i := 5) (oi := { dst := some 79, op := Op.load 3 (Operand.tmp 78), type := 3, pos := "ref.go:119", after := #[{ on := 4, ground := Ground.data }], guard := none }) (v := .int .i64 y) rfl (by kernel_rfl) (by kernel_rfl) (by kernel_rfl) (fun _ _ _ h => h) (Or.inl ⟨by rfl, fun wS hSw => ?_⟩) (by assumption) ?_
                  · clear hHeld
                    obtain ⟨y0, y1, y2⟩ := hSw
                    go_simp
                  try simp only [Act.put, List.setIfInBounds_toArray, List.set_cons_zero, List.set_cons_succ]
                  refine wpAnyH_take (i := 6) (oi := { dst := some 80, op := Op.move (Operand.tmp 8), type := 22, pos := "ref.go:119", after := #[], guard := none }) (v := .slice (some ⟨g, o, none⟩) 3 c) rfl (by kernel_rfl) (by kernel_rfl) (by kernel_rfl) (fun _ _ _ h => h) (Or.inl ⟨by rfl, fun wS hSw => ?_⟩) (by assumption) ?_
                  · clear hHeld
                    clear hSw
                    go_simp
                  try simp only [Act.put, List.setIfInBounds_toArray, List.set_cons_zero, List.set_cons_succ]
                  refine wpAnyH_take (i := 7) (oi := { dst := some 81, op := Op.indexAddr 22 (Operand.tmp 80) (Operand.const (Value.int IntKind.i64 2)), type := 0, pos := "ref.go:119", after := #[{ on := 6, ground := Ground.data }], guard := none }) (v := .pointer (some ⟨g, o + 2, none⟩)) rfl (by kernel_rfl) (by kernel_rfl) (by kernel_rfl) (fun _ _ _ h => h) (Or.inl ⟨by rfl, fun wS hSw => ?_⟩) (by assumption) ?_
                  · clear hHeld
                    clear hSw
                    go_simp
                  try simp only [Act.put, List.setIfInBounds_toArray, List.set_cons_zero, List.set_cons_succ]
                  refine wpAnyH_take (i := 8) (oi := { dst := some 82, op := Op.load 3 (Operand.tmp 81), type := 3, pos := "ref.go:119", after := #[{ on := 7, ground := Ground.data }], guard := none }) (v := .int .i64 z) rfl (by kernel_rfl) (by kernel_rfl) (by kernel_rfl) (fun _ _ _ h => h) (Or.inl ⟨by rfl, fun wS hSw => ?_⟩) (by assumption) ?_
                  · clear hHeld
                    obtain ⟨y0, y1, y2⟩ := hSw
                    go_simp
                  try simp only [Act.put, List.setIfInBounds_toArray, List.set_cons_zero, List.set_cons_succ]
                  refine wpAnyH_take (i := 9) (oi := { dst := some 83, op := Op.build 28 #[(0, Operand.const (Value.int IntKind.i64 3)), (1, Operand.tmp 76), (2, Operand.tmp 79), (3, Operand.tmp 82)], type := 28, pos := "ref.go:119", after := #[{ on := 2, ground := Ground.data }, { on := 5, ground := Ground.data }, { on := 8, ground := Ground.data }], guard := none }) (v := .agg #[.int .i64 3, .int .i64 x, .int .i64 y, .int .i64 z]) rfl (by kernel_rfl) (by kernel_rfl) (by kernel_rfl) (fun _ _ _ h => h) (Or.inl ⟨by rfl, fun wS hSw => ?_⟩) (by assumption) ?_
                  · clear hHeld
                    have hbt := built_d4 3 x y z
                    clear hSw
                    go_simp
                  try simp only [Act.put, List.setIfInBounds_toArray, List.set_cons_zero, List.set_cons_succ]
                  refine wpAnyH_ready (rs := [10]) (by kernel_rfl) (by simp) ?_
                  refine AllReadyH.cons (o := { dst := none, op := Op.store 28 (Operand.tmp 2) (Operand.tmp 83), type := 0, pos := "ref.go:119", after := #[{ on := 9, ground := Ground.data }, { on := 0, ground := Ground.phase }, { on := 1, ground := Ground.phase }, { on := 2, ground := Ground.phase }, { on := 3, ground := Ground.phase }, { on := 4, ground := Ground.phase }, { on := 5, ground := Ground.phase }, { on := 6, ground := Ground.phase }, { on := 7, ground := Ground.phase }, { on := 8, ground := Ground.phase }, { on := 9, ground := Ground.phase }], guard := none }) rfl (fun K hK => ?_) AllReadyH.nil
                  refine wp_store_row 28 _ _ rfl w.heap.size #[.int .i64 3, .int .i64 x, .int .i64 y, .int .i64 z] rfl rfl 28 _ (HQ3.out.res) (hz ⟨3, x, y, z⟩) rfl (by simp [Value.oneCell']) ?_
                  have hs4 : (fun W : World => W.cell? ⟨g, o, none⟩ = some (.int .i64 x) ∧ W.cell? ⟨g, o + 1, none⟩ = some (.int .i64 y) ∧ W.cell? ⟨g, o + 2, none⟩ = some (.int .i64 z)) (w3.drew.setRow w.heap.size #[.int .i64 3, .int .i64 x, .int .i64 y, .int .i64 z]) := by
                    refine ⟨?_, ?_, ?_⟩
                    · exact (World.cell?_of_block (w := w3.drew) (a := ⟨g, o, none⟩) (setRow_other _ w.heap.size g _ hgw)).trans x0
                    · exact (World.cell?_of_block (w := w3.drew) (a := ⟨g, o + 1, none⟩) (setRow_other _ w.heap.size g _ hgw)).trans x1
                    · exact (World.cell?_of_block (w := w3.drew) (a := ⟨g, o + 2, none⟩) (setRow_other _ w.heap.size g _ hgw)).trans x2
                  refine hK.out _ _ hs4 (fun hHeld => ?_)
                  clear hK K
                  try simp only [Act.put]
                  refine wpAnyH_take (i := 11) (oi := { dst := some 3, op := Op.assign (Operand.const (Value.bool true)), type := 4, pos := "ref.go:119", after := #[{ on := 10, ground := Ground.chain }, { on := 0, ground := Ground.phase }, { on := 1, ground := Ground.phase }, { on := 2, ground := Ground.phase }, { on := 3, ground := Ground.phase }, { on := 4, ground := Ground.phase }, { on := 5, ground := Ground.phase }, { on := 6, ground := Ground.phase }, { on := 7, ground := Ground.phase }, { on := 8, ground := Ground.phase }, { on := 9, ground := Ground.phase }, { on := 10, ground := Ground.phase }], guard := none }) (v := .bool true) rfl (by kernel_rfl) (by kernel_rfl) (by kernel_rfl) (fun _ _ _ h => h) (Or.inl ⟨by rfl, fun wS hSw => ?_⟩) (by assumption) ?_
                  · clear hHeld
                    clear hSw
                    go_simp
                  try simp only [Act.put, List.setIfInBounds_toArray, List.set_cons_zero, List.set_cons_succ]
                  clear hHeld
                  refine wpAnyH_done (by kernel_rfl) ?_ _
                  refine NoPanic.normal ?_
                  go_wp2_with fail
                  refine bodyPost_ret (v := .tuple #[.agg #[.int .i64 3, .int .i64 x, .int .i64 y, .int .i64 z], .bool true]) (ret_dec2 rfl ⟨3, x, y, z⟩ rfl rfl (setRow_heap _ _ _ _ _ _ HQ3.out.res)) rfl ?_
                  exact led_some HV.out (below_setRow HQ3.out.bel.drew (Nat.le_refl _) _)
                · skip
                  have HV : Hid (readV l = none) := by unfold Hid; rw [HY.out, if_neg (fun h => hy h.2)]
                  go_wp2_with (refine wpList_store_row rfl 28 _ _ rfl w.heap.size #[.int .i64 0, .int .i64 0, .int .i64 0, .int .i64 0] rfl rfl 28 _ HQ3.out.res (hz ⟨0, 0, 0, 0⟩) rfl (by simp [Value.oneCell']) ?_)
                  refine bodyPost_ret (v := .tuple #[.agg #[.int .i64 0, .int .i64 0, .int .i64 0, .int .i64 0], .bool false]) (ret_dec2 rfl ⟨0, 0, 0, 0⟩ rfl rfl (setRow_heap _ _ _ _ _ _ HQ3.out.res)) rfl ?_
                  exact led_none HV.out (below_setRow HQ3.out.bel (Nat.le_refl _) _)
              · skip
                have HV : Hid (readV l = none) := by unfold Hid; rw [HY.out, if_neg (fun h => hx h.1)]
                go_wp2_with (refine wpList_store_row rfl 28 _ _ rfl w.heap.size #[.int .i64 0, .int .i64 0, .int .i64 0, .int .i64 0] rfl rfl 28 _ HQ3.out.res (hz ⟨0, 0, 0, 0⟩) rfl (by simp [Value.oneCell']) ?_)
                refine bodyPost_ret (v := .tuple #[.agg #[.int .i64 0, .int .i64 0, .int .i64 0, .int .i64 0], .bool false]) (ret_dec2 rfl ⟨0, 0, 0, 0⟩ rfl rfl (setRow_heap _ _ _ _ _ _ HQ3.out.res)) rfl ?_
                exact led_none HV.out (below_setRow HQ3.out.bel (Nat.le_refl _) _)
            · have hLz : ((L.length : Int) == 3) = false := beq_eq_false_iff_ne.2 (by omega)
              have HNn := hid (ask_len HNo.out hlr hv hL)
              clear hL hv hlr HNo HMv HQ2 hI hba
              have HV : Hid (readV l = none) := HNn.out
              go_wp2_with (refine wpList_store_row rfl 28 _ _ rfl w.heap.size #[.int .i64 0, .int .i64 0, .int .i64 0, .int .i64 0] rfl rfl 28 _ HQ3.out.res (hz ⟨0, 0, 0, 0⟩) rfl (by simp [Value.oneCell']) ?_)
              refine bodyPost_ret (v := .tuple #[.agg #[.int .i64 0, .int .i64 0, .int .i64 0, .int .i64 0], .bool false]) (ret_dec2 rfl ⟨0, 0, 0, 0⟩ rfl rfl (setRow_heap _ _ _ _ _ _ HQ3.out.res)) rfl ?_
              exact led_none HV.out (below_setRow HQ3.out.bel (Nat.le_refl _) _)
          · have HNn : Hid (readV l = none) := by
              by_cases hm : ∃ r, l = wMoved ++ 32 :: r
              · obtain ⟨r, hr⟩ := hm
                exact HMv.out r hr
              · by_cases ha : ∃ r, l = wAsk ++ 32 :: r
                · obtain ⟨r, hr⟩ := ha
                  exact ask_no HNo.out hr (hn r hr)
                · exact neither HNo.out (fun r h => hm ⟨r, h⟩) (fun r h => ha ⟨r, h⟩)
            clear hn HNo HMv HQ2
            have HV : Hid (readV l = none) := HNn.out
            go_wp2_with (refine wpList_store_row rfl 28 _ _ rfl w.heap.size #[.int .i64 0, .int .i64 0, .int .i64 0, .int .i64 0] rfl rfl 28 _ HQ3.out.res (hz ⟨0, 0, 0, 0⟩) rfl (by simp [Value.oneCell']) ?_)
            refine bodyPost_ret (v := .tuple #[.agg #[.int .i64 0, .int .i64 0, .int .i64 0, .int .i64 0], .bool false]) (ret_dec2 rfl ⟨0, 0, 0, 0⟩ rfl rfl (setRow_heap _ _ _ _ _ _ HQ3.out.res)) rfl ?_
            exact led_none HV.out (below_setRow HQ3.out.bel (Nat.le_refl _) _)
      · have HMv : Hid (∀ r, l = wMoved ++ 32 :: r → readV l = none) := fun r h => moved_no HNo.out h (hn r h)
        clear hn
        have HK1 := hid (HK.out w2)
        clear HK
        go_upto_region 10 with fail
        go_wp2_with fail
        refine HK1.out.mono ?_; rintro e w3 ⟨hor, hb3⟩
        have HQ3 := hid (HQ2.out.go hb3)
        clear hb3 HK1
        rcases hor with ⟨r, L, a, c, hlr, hv, rfl, hI, hba⟩ | ⟨rfl, hn⟩
        · by_cases hL : L.length = 3
          · obtain ⟨x, y, z, rfl⟩ := list3 hL
            have HY := hid (ask_yes HNo.out hlr hv)
            obtain ⟨g, o, rfl, hgl, hcs⟩ := hI (by simp)
            have x0 : w3.cell? ⟨g, o, none⟩ = some (.int .i64 x) := hcs 0 (by simp)
            have x1 : w3.cell? ⟨g, o + 1, none⟩ = some (.int .i64 y) := hcs 1 (by simp)
            have x2 : w3.cell? ⟨g, o + 2, none⟩ = some (.int .i64 z) := hcs 2 (by simp)
            have hgw : g ≠ w.heap.size := by have := hba g o rfl; omega
            clear hcs hI hba hgl
            clear hL hv hlr HNo HMv HQ2
            by_cases hx : x ≤ 16383
            · by_cases hy : y ≤ 63
              · go_upto_region 12 with fail
                have HV : Hid (readV l = some ⟨3, x, y, z⟩) := by unfold Hid; rw [HY.out, if_pos ⟨hx, hy⟩]
                refine wp_region_noPanic ?_
                refine wp_region_held_drew (S := fun W => W.cell? ⟨g, o, none⟩ = some (.int .i64 x) ∧ W.cell? ⟨g, o + 1, none⟩ = some (.int .i64 y) ∧ W.cell? ⟨g, o + 2, none⟩ = some (.int .i64 z)) (by kernel_rfl) ⟨x0, x1, x2⟩ (fun hHeld => ?_)
                refine wpAnyH_take (i := 0) (oi := { dst := some 74, op := Op.move (Operand.tmp 8), type := 22, pos := "ref.go:119", after := #[], guard := none }) (v := .slice (some ⟨g, o, none⟩) 3 c) rfl (by kernel_rfl) (by kernel_rfl) (by kernel_rfl) (fun _ _ _ h => h) (Or.inl ⟨by rfl, fun wS hSw => ?_⟩) (by assumption) ?_
                · clear hHeld
                  clear hSw
                  go_simp
                try simp only [Act.put, List.setIfInBounds_toArray, List.set_cons_zero, List.set_cons_succ]
                refine wpAnyH_take (i := 1) (oi := { dst := some 75, op := Op.indexAddr 22 (Operand.tmp 74) (Operand.const (Value.int IntKind.i64 0)), type := 0, pos := "ref.go:119", after := #[{ on := 0, ground := Ground.data }], guard := none }) (v := .pointer (some ⟨g, o, none⟩)) rfl (by kernel_rfl) (by kernel_rfl) (by kernel_rfl) (fun _ _ _ h => h) (Or.inl ⟨by rfl, fun wS hSw => ?_⟩) (by assumption) ?_
                · clear hHeld
                  clear hSw
                  go_simp
                try simp only [Act.put, List.setIfInBounds_toArray, List.set_cons_zero, List.set_cons_succ]
                refine wpAnyH_take (i := 2) (oi := { dst := some 76, op := Op.load 3 (Operand.tmp 75), type := 3, pos := "ref.go:119", after := #[{ on := 1, ground := Ground.data }], guard := none }) (v := .int .i64 x) rfl (by kernel_rfl) (by kernel_rfl) (by kernel_rfl) (fun _ _ _ h => h) (Or.inl ⟨by rfl, fun wS hSw => ?_⟩) (by assumption) ?_
                · clear hHeld
                  obtain ⟨y0, y1, y2⟩ := hSw
                  go_simp
                try simp only [Act.put, List.setIfInBounds_toArray, List.set_cons_zero, List.set_cons_succ]
                refine wpAnyH_take (i := 3) (oi := { dst := some 77, op := Op.move (Operand.tmp 8), type := 22, pos := "ref.go:119", after := #[], guard := none }) (v := .slice (some ⟨g, o, none⟩) 3 c) rfl (by kernel_rfl) (by kernel_rfl) (by kernel_rfl) (fun _ _ _ h => h) (Or.inl ⟨by rfl, fun wS hSw => ?_⟩) (by assumption) ?_
                · clear hHeld
                  clear hSw
                  go_simp
                try simp only [Act.put, List.setIfInBounds_toArray, List.set_cons_zero, List.set_cons_succ]
                refine wpAnyH_take (i := 4) (oi := { dst := some 78, op := Op.indexAddr 22 (Operand.tmp 77) (Operand.const (Value.int IntKind.i64 1)), type := 0, pos := "ref.go:119", after := #[{ on := 3, ground := Ground.data }], guard := none }) (v := .pointer (some ⟨g, o + 1, none⟩)) rfl (by kernel_rfl) (by kernel_rfl) (by kernel_rfl) (fun _ _ _ h => h) (Or.inl ⟨by rfl, fun wS hSw => ?_⟩) (by assumption) ?_
                · clear hHeld
                  clear hSw
                  go_simp
                try simp only [Act.put, List.setIfInBounds_toArray, List.set_cons_zero, List.set_cons_succ]
                refine wpAnyH_take (i := 5) (oi := { dst := some 79, op := Op.load 3 (Operand.tmp 78), type := 3, pos := "ref.go:119", after := #[{ on := 4, ground := Ground.data }], guard := none }) (v := .int .i64 y) rfl (by kernel_rfl) (by kernel_rfl) (by kernel_rfl) (fun _ _ _ h => h) (Or.inl ⟨by rfl, fun wS hSw => ?_⟩) (by assumption) ?_
                · clear hHeld
                  obtain ⟨y0, y1, y2⟩ := hSw
                  go_simp
                try simp only [Act.put, List.setIfInBounds_toArray, List.set_cons_zero, List.set_cons_succ]
                refine wpAnyH_take (i := 6) (oi := { dst := some 80, op := Op.move (Operand.tmp 8), type := 22, pos := "ref.go:119", after := #[], guard := none }) (v := .slice (some ⟨g, o, none⟩) 3 c) rfl (by kernel_rfl) (by kernel_rfl) (by kernel_rfl) (fun _ _ _ h => h) (Or.inl ⟨by rfl, fun wS hSw => ?_⟩) (by assumption) ?_
                · clear hHeld
                  clear hSw
                  go_simp
                try simp only [Act.put, List.setIfInBounds_toArray, List.set_cons_zero, List.set_cons_succ]
                refine wpAnyH_take (i := 7) (oi := { dst := some 81, op := Op.indexAddr 22 (Operand.tmp 80) (Operand.const (Value.int IntKind.i64 2)), type := 0, pos := "ref.go:119", after := #[{ on := 6, ground := Ground.data }], guard := none }) (v := .pointer (some ⟨g, o + 2, none⟩)) rfl (by kernel_rfl) (by kernel_rfl) (by kernel_rfl) (fun _ _ _ h => h) (Or.inl ⟨by rfl, fun wS hSw => ?_⟩) (by assumption) ?_
                · clear hHeld
                  clear hSw
                  go_simp
                try simp only [Act.put, List.setIfInBounds_toArray, List.set_cons_zero, List.set_cons_succ]
                refine wpAnyH_take (i := 8) (oi := { dst := some 82, op := Op.load 3 (Operand.tmp 81), type := 3, pos := "ref.go:119", after := #[{ on := 7, ground := Ground.data }], guard := none }) (v := .int .i64 z) rfl (by kernel_rfl) (by kernel_rfl) (by kernel_rfl) (fun _ _ _ h => h) (Or.inl ⟨by rfl, fun wS hSw => ?_⟩) (by assumption) ?_
                · clear hHeld
                  obtain ⟨y0, y1, y2⟩ := hSw
                  go_simp
                try simp only [Act.put, List.setIfInBounds_toArray, List.set_cons_zero, List.set_cons_succ]
                refine wpAnyH_take (i := 9) (oi := { dst := some 83, op := Op.build 28 #[(0, Operand.const (Value.int IntKind.i64 3)), (1, Operand.tmp 76), (2, Operand.tmp 79), (3, Operand.tmp 82)], type := 28, pos := "ref.go:119", after := #[{ on := 2, ground := Ground.data }, { on := 5, ground := Ground.data }, { on := 8, ground := Ground.data }], guard := none }) (v := .agg #[.int .i64 3, .int .i64 x, .int .i64 y, .int .i64 z]) rfl (by kernel_rfl) (by kernel_rfl) (by kernel_rfl) (fun _ _ _ h => h) (Or.inl ⟨by rfl, fun wS hSw => ?_⟩) (by assumption) ?_
                · clear hHeld
                  have hbt := built_d4 3 x y z
                  clear hSw
                  go_simp
                try simp only [Act.put, List.setIfInBounds_toArray, List.set_cons_zero, List.set_cons_succ]
                refine wpAnyH_ready (rs := [10]) (by kernel_rfl) (by simp) ?_
                refine AllReadyH.cons (o := { dst := none, op := Op.store 28 (Operand.tmp 2) (Operand.tmp 83), type := 0, pos := "ref.go:119", after := #[{ on := 9, ground := Ground.data }, { on := 0, ground := Ground.phase }, { on := 1, ground := Ground.phase }, { on := 2, ground := Ground.phase }, { on := 3, ground := Ground.phase }, { on := 4, ground := Ground.phase }, { on := 5, ground := Ground.phase }, { on := 6, ground := Ground.phase }, { on := 7, ground := Ground.phase }, { on := 8, ground := Ground.phase }, { on := 9, ground := Ground.phase }], guard := none }) rfl (fun K hK => ?_) AllReadyH.nil
                refine wp_store_row 28 _ _ rfl w.heap.size #[.int .i64 3, .int .i64 x, .int .i64 y, .int .i64 z] rfl rfl 28 _ (HQ3.out.res) (hz ⟨3, x, y, z⟩) rfl (by simp [Value.oneCell']) ?_
                have hs4 : (fun W : World => W.cell? ⟨g, o, none⟩ = some (.int .i64 x) ∧ W.cell? ⟨g, o + 1, none⟩ = some (.int .i64 y) ∧ W.cell? ⟨g, o + 2, none⟩ = some (.int .i64 z)) (w3.drew.setRow w.heap.size #[.int .i64 3, .int .i64 x, .int .i64 y, .int .i64 z]) := by
                  refine ⟨?_, ?_, ?_⟩
                  · exact (World.cell?_of_block (w := w3.drew) (a := ⟨g, o, none⟩) (setRow_other _ w.heap.size g _ hgw)).trans x0
                  · exact (World.cell?_of_block (w := w3.drew) (a := ⟨g, o + 1, none⟩) (setRow_other _ w.heap.size g _ hgw)).trans x1
                  · exact (World.cell?_of_block (w := w3.drew) (a := ⟨g, o + 2, none⟩) (setRow_other _ w.heap.size g _ hgw)).trans x2
                refine hK.out _ _ hs4 (fun hHeld => ?_)
                clear hK K
                try simp only [Act.put]
                refine wpAnyH_take (i := 11) (oi := { dst := some 3, op := Op.assign (Operand.const (Value.bool true)), type := 4, pos := "ref.go:119", after := #[{ on := 10, ground := Ground.chain }, { on := 0, ground := Ground.phase }, { on := 1, ground := Ground.phase }, { on := 2, ground := Ground.phase }, { on := 3, ground := Ground.phase }, { on := 4, ground := Ground.phase }, { on := 5, ground := Ground.phase }, { on := 6, ground := Ground.phase }, { on := 7, ground := Ground.phase }, { on := 8, ground := Ground.phase }, { on := 9, ground := Ground.phase }, { on := 10, ground := Ground.phase }], guard := none }) (v := .bool true) rfl (by kernel_rfl) (by kernel_rfl) (by kernel_rfl) (fun _ _ _ h => h) (Or.inl ⟨by rfl, fun wS hSw => ?_⟩) (by assumption) ?_
                · clear hHeld
                  clear hSw
                  go_simp
                try simp only [Act.put, List.setIfInBounds_toArray, List.set_cons_zero, List.set_cons_succ]
                clear hHeld
                refine wpAnyH_done (by kernel_rfl) ?_ _
                refine NoPanic.normal ?_
                go_wp2_with fail
                refine bodyPost_ret (v := .tuple #[.agg #[.int .i64 3, .int .i64 x, .int .i64 y, .int .i64 z], .bool true]) (ret_dec2 rfl ⟨3, x, y, z⟩ rfl rfl (setRow_heap _ _ _ _ _ _ HQ3.out.res)) rfl ?_
                exact led_some HV.out (below_setRow HQ3.out.bel.drew (Nat.le_refl _) _)
              · skip
                have HV : Hid (readV l = none) := by unfold Hid; rw [HY.out, if_neg (fun h => hy h.2)]
                go_wp2_with (refine wpList_store_row rfl 28 _ _ rfl w.heap.size #[.int .i64 0, .int .i64 0, .int .i64 0, .int .i64 0] rfl rfl 28 _ HQ3.out.res (hz ⟨0, 0, 0, 0⟩) rfl (by simp [Value.oneCell']) ?_)
                refine bodyPost_ret (v := .tuple #[.agg #[.int .i64 0, .int .i64 0, .int .i64 0, .int .i64 0], .bool false]) (ret_dec2 rfl ⟨0, 0, 0, 0⟩ rfl rfl (setRow_heap _ _ _ _ _ _ HQ3.out.res)) rfl ?_
                exact led_none HV.out (below_setRow HQ3.out.bel (Nat.le_refl _) _)
            · skip
              have HV : Hid (readV l = none) := by unfold Hid; rw [HY.out, if_neg (fun h => hx h.1)]
              go_wp2_with (refine wpList_store_row rfl 28 _ _ rfl w.heap.size #[.int .i64 0, .int .i64 0, .int .i64 0, .int .i64 0] rfl rfl 28 _ HQ3.out.res (hz ⟨0, 0, 0, 0⟩) rfl (by simp [Value.oneCell']) ?_)
              refine bodyPost_ret (v := .tuple #[.agg #[.int .i64 0, .int .i64 0, .int .i64 0, .int .i64 0], .bool false]) (ret_dec2 rfl ⟨0, 0, 0, 0⟩ rfl rfl (setRow_heap _ _ _ _ _ _ HQ3.out.res)) rfl ?_
              exact led_none HV.out (below_setRow HQ3.out.bel (Nat.le_refl _) _)
          · have hLz : ((L.length : Int) == 3) = false := beq_eq_false_iff_ne.2 (by omega)
            have HNn := hid (ask_len HNo.out hlr hv hL)
            clear hL hv hlr HNo HMv HQ2 hI hba
            have HV : Hid (readV l = none) := HNn.out
            go_wp2_with (refine wpList_store_row rfl 28 _ _ rfl w.heap.size #[.int .i64 0, .int .i64 0, .int .i64 0, .int .i64 0] rfl rfl 28 _ HQ3.out.res (hz ⟨0, 0, 0, 0⟩) rfl (by simp [Value.oneCell']) ?_)
            refine bodyPost_ret (v := .tuple #[.agg #[.int .i64 0, .int .i64 0, .int .i64 0, .int .i64 0], .bool false]) (ret_dec2 rfl ⟨0, 0, 0, 0⟩ rfl rfl (setRow_heap _ _ _ _ _ _ HQ3.out.res)) rfl ?_
            exact led_none HV.out (below_setRow HQ3.out.bel (Nat.le_refl _) _)
        · have HNn : Hid (readV l = none) := by
            by_cases hm : ∃ r, l = wMoved ++ 32 :: r
            · obtain ⟨r, hr⟩ := hm
              exact HMv.out r hr
            · by_cases ha : ∃ r, l = wAsk ++ 32 :: r
              · obtain ⟨r, hr⟩ := ha
                exact ask_no HNo.out hr (hn r hr)
              · exact neither HNo.out (fun r h => hm ⟨r, h⟩) (fun r h => ha ⟨r, h⟩)
          clear hn HNo HMv HQ2
          have HV : Hid (readV l = none) := HNn.out
          go_wp2_with (refine wpList_store_row rfl 28 _ _ rfl w.heap.size #[.int .i64 0, .int .i64 0, .int .i64 0, .int .i64 0] rfl rfl 28 _ HQ3.out.res (hz ⟨0, 0, 0, 0⟩) rfl (by simp [Value.oneCell']) ?_)
          refine bodyPost_ret (v := .tuple #[.agg #[.int .i64 0, .int .i64 0, .int .i64 0, .int .i64 0], .bool false]) (ret_dec2 rfl ⟨0, 0, 0, 0⟩ rfl rfl (setRow_heap _ _ _ _ _ _ HQ3.out.res)) rfl ?_
          exact led_none HV.out (below_setRow HQ3.out.bel (Nat.le_refl _) _)

end Go.Proofs.YtpmpndfinghlkaaDoor
