/- A Bulk or a Nil: readBulk. -/
import Derived.Test.YtngkbacnajgmcaaDoorRead
import Derived.Deep.RegionWith
namespace Go.Proofs.YtngkbacnajgmcaaDoor
open Go.RowKit

/-- a reply without a list, as a value -/
def flatV (r : Rep) : Value := .agg #[.int .i64 r.kind, .int .i64 r.int, .string ⟨r.text.toArray⟩, .slice none 0 0]
def zeroV : Value := .agg #[.int .i64 0, .int .i64 0, .string ⟨#[]⟩, .slice none 0 0]
/-- what readBulk tells -/
def bulkVal (s : List UInt8) : Res → Value
  | .got r rest => .tuple #[flatV r, .string ⟨rest.toArray⟩, .int .i64 0]
  | .bad x => .tuple #[zeroV, .string ⟨s.toArray⟩, .int .i64 x]
theorem rdBulk_nil (s : List UInt8) : rdBulk [45, 49] s = .got (.mk 5 0 [] []) s := rfl
theorem rdBulk_none {text s : List UInt8} (h1 : ¬ text = [45, 49]) (h2 : num text 0 65536 = none) : rdBulk text s = .bad 41 := by unfold rdBulk; rw [if_neg h1, h2]
theorem rdBulk_some {text s : List UInt8} {n : Nat} (h1 : ¬ text = [45, 49]) (h2 : num text 0 65536 = some (n : Int)) : rdBulk text s = if s.length < n then .bad 40
      else if ((s.drop n).take 2).isPrefixOf [13, 10] then (if (s.drop n).take 2 = [13, 10] then .got (.mk 4 0 (s.take n) []) (s.drop (n + 2)) else .bad 40)
      else .bad 41 := by unfold rdBulk; rw [if_neg h1, h2]; simp only [Int.toNat_natCast]
theorem num_range {text : List UInt8} {a b v : Int} (h : num text a b = some v) : a ≤ v ∧ v ≤ b := by
  unfold num at h
  split at h
  · split at h
    · rename_i hc; injection h with h; omega
    · cases h
  · cases h
theorem hasPrefix_run (l : List UInt8) (w : World) : Calls Tryd.prog 45 #[.string ⟨#[13, 10]⟩, .string ⟨l.toArray⟩] w fun e w' => e = .returned (.bool (l.isPrefixOf [13, 10])) ∧ w' = w := Tryd.strings_HasPrefix ⟨#[13, 10]⟩ ⟨l.toArray⟩ w
theorem ex_mid (s : List UInt8) (a b : Nat) : (⟨s.toArray⟩ : ByteArray).extract a b = ⟨((s.drop a).take (b - a)).toArray⟩ := ByteArray.extract_mk s a b
/-- a reply's row, cell by cell -/
theorem row_facts {w : World} {b : Nat} {x y z u : Value} (h : w.heap[b]? = some (.cells #[x, y, z, u] 24 (0, 0))) :
    (w.cell? ⟨b, 0, none⟩ = some x ∧ w.cell? ⟨b, 1, none⟩ = some y ∧ w.cell? ⟨b, 2, none⟩ = some z ∧ w.cell? ⟨b, 3, none⟩ = some u) ∧ w.frozen? ⟨b, 0, none⟩ = false ∧ w.frozen? ⟨b, 1, none⟩ = false ∧ w.frozen? ⟨b, 2, none⟩ = false ∧ w.frozen? ⟨b, 3, none⟩ = false := by
  refine ⟨⟨cell_of_row w _ 0 _ _ _ h, cell_of_row w _ 1 _ _ _ h, cell_of_row w _ 2 _ _ _ h, cell_of_row w _ 3 _ _ _ h⟩, ?_, ?_, ?_, ?_⟩
  all_goals simp [World.frozen?, h]
theorem row_set4 {w : World} {b : Nat} {x y z u : Value} (h : w.heap[b]? = some (.cells #[x, y, z, u] 24 (0, 0))) (x' y' z' u' : Value) :
    ((((w.setCell ⟨b, 0, none⟩ x').setCell ⟨b, 1, none⟩ y').setCell ⟨b, 2, none⟩ z').setCell ⟨b, 3, none⟩ u').heap[b]? = some (.cells #[x', y', z', u'] 24 (0, 0)) := by
  have h0 := heap_setCell_same w b 0 _ _ x' h
  have h1 := heap_setCell_same _ b 1 _ _ y' h0
  have h2 := heap_setCell_same _ b 2 _ _ z' h1
  exact heap_setCell_same _ b 3 _ _ u' h2
set_option maxHeartbeats 4000000 in
set_option maxRecDepth 100000 in
/-- readBulk -/
theorem readBulk_any (text s : List UInt8) (w : World) (hE : Env w) (ht : text.length ≤ 281474976710656) (hs : s.length ≤ 281474976710656) :
    Calls Tryd.prog 34 #[.string ⟨text.toArray⟩, .string ⟨s.toArray⟩] w fun e w' => e = .returned (bulkVal s (rdBulk text s)) ∧ Hid (Below w.heap.size w w') := by
  obtain ⟨V, hV⟩ : ∃ V, V = bulkVal s (rdBulk text s) := ⟨_, rfl⟩
  rw [← hV]
  by_cases h1 : text = [45, 49]
  · subst h1
    have HV := hid hV
    clear hV hE ht
    go_enter Tryd.func34, Tryd.ntmps34
    go_wp2_with fail
    refine bodyPost_ret (v := .tuple #[.agg #[.int .i64 5, .int .i64 0, .string ⟨#[]⟩, .slice none 0 0], .string ⟨s.toArray⟩, .int .i64 0]) ?_ rfl ?_
    · exact ret_rep3 rfl rfl rfl rfl (heap_alloc_new w _)
    · exact ⟨by rw [HV.out]; rfl, below_alloc w _⟩
  · have HN := hid fun (o : Obj) => readNumber_any text 0 65536 (w.alloc o) (hE.below (below_alloc w o) hE.room) ht (by decide) (by decide)
    have HZ := hid fun (o : Obj) => heap_alloc_new w o
    have h1b : (text == [45, 49]) = false := beq_eq_false_iff_ne.2 h1
    cases hn : num text 0 65536 with
    | none =>
      rw [rdBulk_none h1 hn] at hV
      have HV := hid hV
      rw [hn] at HN
      simp only [numVal] at HN
      clear hV hn hE h1
      go_enter Tryd.func34, Tryd.ntmps34
      go_wp2_with fail
      refine (HN.out _).mono ?_; rintro e w2 ⟨rfl, hb⟩
      have HB := hid hb.out
      have HR := hid ((HB.out.block _ (by simp)).trans (HZ.out _))
      clear hb
      go_wp2_with (first | (refine wpList_load_row rfl 24 _ rfl w.heap.size rfl 24 _ (0, 0) _ HR.out Tryd.underlying24 rfl (infoRep _ _ _ _) ?_) | (refine wpList_store_row rfl 24 _ _ rfl w.heap.size #[.int .i64 0, .int .i64 0, .string ⟨#[]⟩, .slice none 0 0] rfl rfl 24 _ HR.out (infoRep _ _ _ _) rfl (oneR _ _ _ _ _ _) ?_))
      refine bodyPost_ret (v := .tuple #[zeroV, .string ⟨s.toArray⟩, .int .i64 41]) ?_ rfl ?_
      · exact ret_rep3 rfl rfl rfl rfl (setRow_heap w2 _ _ _ _ _ HR.out)
      · exact ⟨by rw [HV.out]; rfl, below_setRow ((below_alloc w _).trans (HB.out.mono (by simp))) (Nat.le_refl _) _⟩
    | some z =>
      obtain ⟨z0, z1⟩ := num_range hn
      obtain ⟨n, rfl⟩ := Int.eq_ofNat_of_zero_le z0
      rw [rdBulk_some h1 hn] at hV
      rw [hn] at HN
      simp only [numVal] at HN
      have hn6 : n ≤ 65536 := by omega
      clear hn hE z0 z1 h1
      by_cases hsl : s.length < n
      · rw [if_pos hsl] at hV
        have HV := hid hV
        have hslz : (s.length : Int) < (n : Int) := by omega
        clear hV
        go_enter Tryd.func34, Tryd.ntmps34
        go_wp2_with fail
        refine (HN.out _).mono ?_; rintro e w2 ⟨rfl, hb⟩
        have HB := hid hb.out
        have HR := hid ((HB.out.block _ (by simp)).trans (HZ.out _))
        clear hb
        go_wp2_with (first | (refine wpList_load_row rfl 24 _ rfl w.heap.size rfl 24 _ (0, 0) _ HR.out Tryd.underlying24 rfl (infoRep _ _ _ _) ?_) | (refine wpList_store_row rfl 24 _ _ rfl w.heap.size #[.int .i64 0, .int .i64 0, .string ⟨#[]⟩, .slice none 0 0] rfl rfl 24 _ HR.out (infoRep _ _ _ _) rfl (oneR _ _ _ _ _ _) ?_))
        refine bodyPost_ret (v := .tuple #[zeroV, .string ⟨s.toArray⟩, .int .i64 40]) ?_ rfl ?_
        · exact ret_rep3 rfl rfl rfl rfl (setRow_heap w2 _ _ _ _ _ HR.out)
        · exact ⟨by rw [HV.out]; rfl, below_setRow ((below_alloc w _).trans (HB.out.mono (by simp))) (Nat.le_refl _) _⟩
      · rw [if_neg hsl] at hV
        have hslz : ¬ (s.length : Int) < (n : Int) := by omega
        have hnl : (n : Int) ≤ (s.length : Int) := by omega
        have HP := hid fun w => hasPrefix_run ((s.drop n).take 2) w
        have hex : (⟨s.toArray⟩ : ByteArray).extract n (min (s.length : Int) ((n : Int) + 2)).toNat = ⟨((s.drop n).take 2).toArray⟩ := by
          rw [ex_mid, show (min (s.length : Int) ((n : Int) + 2)).toNat = min s.length (n + 2) by omega]
          congr 2
          by_cases h : s.length ≤ n + 2
          · rw [Nat.min_eq_left h, List.take_of_length_le (by simp), List.take_of_length_le (by simp; omega)]
          · rw [Nat.min_eq_right (by omega)]; congr 1; omega
        have hmz : (n : Int) ≤ min (s.length : Int) ((n : Int) + 2) := by omega
        have hml : min (s.length : Int) ((n : Int) + 2) ≤ (s.length : Int) := by omega
        generalize hEd : (s.drop n).take 2 = Ed at *
        cases hpx : Ed.isPrefixOf [13, 10]
        · rw [hpx] at hV HP
          simp only [Bool.false_eq_true, if_false] at hV
          have HV := hid hV
          clear hV hpx
          go_enter Tryd.func34, Tryd.ntmps34
          go_wp2_with fail
          refine (HN.out _).mono ?_; rintro e w2 ⟨rfl, hb⟩
          have HB := hid hb.out
          have HR := hid ((HB.out.block _ (by simp)).trans (HZ.out _))
          clear hb
          go_wp2_with fail
          refine (HP.out _).mono ?_; rintro e w2 ⟨rfl, rfl⟩
          go_wp2_with (first | (refine wpList_load_row rfl 24 _ rfl w.heap.size rfl 24 _ (0, 0) _ HR.out Tryd.underlying24 rfl (infoRep _ _ _ _) ?_) | (refine wpList_store_row rfl 24 _ _ rfl w.heap.size #[.int .i64 0, .int .i64 0, .string ⟨#[]⟩, .slice none 0 0] rfl rfl 24 _ HR.out (infoRep _ _ _ _) rfl (oneR _ _ _ _ _ _) ?_))
          refine bodyPost_ret (v := .tuple #[zeroV, .string ⟨s.toArray⟩, .int .i64 41]) ?_ rfl ?_
          · exact ret_rep3 rfl rfl rfl rfl (setRow_heap w2 _ _ _ _ _ HR.out)
          · exact ⟨by rw [HV.out]; rfl, below_setRow ((below_alloc w _).trans (HB.out.mono (by simp))) (Nat.le_refl _) _⟩
        · rw [hpx] at hV HP
          simp only [if_true] at hV
          clear hpx
          by_cases he : Ed = [13, 10]
          · rw [if_pos he] at hV
            have HV := hid hV
            have h2 : n + 2 ≤ s.length := by
              rw [he] at hEd
              have := congrArg List.length hEd
              simp at this
              omega
            subst he
            have hx1 : (⟨s.toArray⟩ : ByteArray).extract 0 n = ⟨(s.take n).toArray⟩ := ex_to s n
            have hx2 : (⟨s.toArray⟩ : ByteArray).extract (n + 2) s.length = ⟨(s.drop (n + 2)).toArray⟩ := ex_from s (n + 2)
            have hx3 : ((n : Int) + 2).toNat = n + 2 := by omega
            have h2z : (n : Int) + 2 ≤ (s.length : Int) := by omega
            have HT := hid fun w => text_any (s.take n) w
            have hwr : IntKind.i64.wrap ((n : Int) + 2) = (n : Int) + 2 := wrap_small _ (by omega) (by omega)
            clear hV hEd
            go_enter Tryd.func34, Tryd.ntmps34
            go_wp2_with fail
            refine (HN.out _).mono ?_; rintro e w2 ⟨rfl, hb⟩
            have HB := hid hb.out
            have HR := hid ((HB.out.block _ (by simp)).trans (HZ.out _))
            clear hb
            go_wp2_with fail
            refine (HP.out _).mono ?_; rintro e w2 ⟨rfl, rfl⟩
            go_wp2_with fail
            go_region_with (go_at_call 23; refine (HT.out _).mono ?_; rintro e w3 ⟨rfl, hb3⟩; have hr3 := (hb3.block w.heap.size (Array.getElem?_eq_some_iff.1 HR.out).1).trans HR.out; obtain ⟨⟨c0, c1, c2, c3⟩, f0, f1, f2, f3⟩ := row_facts hr3; have HR3 := hid hr3; have HB3 := hid hb3; clear hb3 hr3)
            all_goals go_wp2_with fail
            all_goals refine bodyPost_ret (v := .tuple #[.agg #[.int .i64 4, .int .i64 0, .string ⟨(s.take n).toArray⟩, .slice none 0 0], .string ⟨(s.drop (n + 2)).toArray⟩, .int .i64 0]) ?_ rfl ?_
            all_goals first
              | exact ret_rep3 rfl rfl rfl rfl (row_set4 HR3.out _ _ _ _)
              | exact ⟨by rw [HV.out]; rfl, ((((((below_alloc w _).trans (HB.out.mono (by simp))).drew.trans (HB3.out.mono ((below_alloc w _).trans (HB.out.mono (by simp))).size)).setCell (Nat.le_refl _) _).setCell (Nat.le_refl _) _).setCell (Nat.le_refl _) _).setCell (Nat.le_refl _) _⟩
          · rw [if_neg he] at hV
            have HV := hid hV
            have heb : (Ed != [13, 10]) = true := by simp [he]
            have heb2 : (Ed == [13, 10]) = false := beq_eq_false_iff_ne.2 he
            clear hV
            go_enter Tryd.func34, Tryd.ntmps34
            go_wp2_with fail
            refine (HN.out _).mono ?_; rintro e w2 ⟨rfl, hb⟩
            have HB := hid hb.out
            have HR := hid ((HB.out.block _ (by simp)).trans (HZ.out _))
            clear hb
            go_wp2_with fail
            refine (HP.out _).mono ?_; rintro e w2 ⟨rfl, rfl⟩
            go_wp2_with (first | (refine wpList_load_row rfl 24 _ rfl w.heap.size rfl 24 _ (0, 0) _ HR.out Tryd.underlying24 rfl (infoRep _ _ _ _) ?_) | (refine wpList_store_row rfl 24 _ _ rfl w.heap.size #[.int .i64 0, .int .i64 0, .string ⟨#[]⟩, .slice none 0 0] rfl rfl 24 _ HR.out (infoRep _ _ _ _) rfl (oneR _ _ _ _ _ _) ?_))
            refine bodyPost_ret (v := .tuple #[zeroV, .string ⟨s.toArray⟩, .int .i64 40]) ?_ rfl ?_
            · exact ret_rep3 rfl rfl rfl rfl (setRow_heap w2 _ _ _ _ _ HR.out)
            · exact ⟨by rw [HV.out]; rfl, below_setRow ((below_alloc w _).trans (HB.out.mono (by simp))) (Nat.le_refl _) _⟩

end Go.Proofs.YtngkbacnajgmcaaDoor
