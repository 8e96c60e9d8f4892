/- The replies of a list, one behind the other: readList. -/
import Derived.Test.YtngkbacnajgmcaaDoorRows2
import Derived.Test.YtngkbacnajgmcaaDoorReadP
namespace Go.Proofs.YtngkbacnajgmcaaDoor
open Go.RowKit

/-- what read tells, by what stands there -/
def ROut (B : Nat) (W : World) (d : Nat) (v : Value) (rest : ByteArray) (x : Int) : Res → Prop
  | .got r rest' => x = 0 ∧ rest = ⟨rest'.toArray⟩ ∧ Rp (fun b => B ≤ b) W d v r
  | .bad y => x = y
def LOut (B : Nat) (W : World) (d : Nat) (p : Option Addr) (n : Nat) (rest : ByteArray) (x : Int) : ResL → Prop
  | .got l rest' => x = 0 ∧ rest = ⟨rest'.toArray⟩ ∧ n = l.length ∧ RowOf (fun b => B ≤ b) W (Rp (fun b => B ≤ b) W d) p l
  | .bad y => x = y
def ReadAt (k : Nat) : Prop := ∀ (z : Int) (s : List UInt8) (w : World), z = (k : Int) → k ≤ 100 → Env w → s.length ≤ 281474976710656 →
  Calls Tryd.prog 20 #[.string ⟨s.toArray⟩, .int .i64 z] w fun e w' => ∃ (a0 a1 : Int) (a2 : ByteArray) (p : Option Addr) (m c : Nat) (rest : ByteArray) (x : Int), e = .returned (.tuple #[.agg #[.int .i64 a0, .int .i64 a1, .string a2, .slice p m c], .string rest, .int .i64 x]) ∧
    Hid (ROut w.heap.size w' (k + 1) (.agg #[.int .i64 a0, .int .i64 a1, .string a2, .slice p m c]) rest x (rd k s) ∧ Below w.heap.size w w')
theorem rdAll_step {f : List UInt8 → Res} {n : Nat} {s rest : List UInt8} {r : Rep} (h : f s = .got r rest) : rdAll f (n + 1) s = (match rdAll f n rest with | .bad e => .bad e | .got l rest' => .got (r :: l) rest') := by
  simp only [rdAll, h]
  cases rdAll f n rest <;> rfl
theorem rdAll_stop {f : List UInt8 → Res} {n : Nat} {s : List UInt8} {y : Int} (h : f s = .bad y) : rdAll f (n + 1) s = .bad y := by
  simp only [rdAll, h]
/-- what is read so far, and what follows -/
def Goes (f : List UInt8 → Res) (N : Nat) (s : List UInt8) (i : Nat) (acc : List Rep) (s' : List UInt8) : Prop :=
  (∀ l rest, rdAll f (N - i) s' = .got l rest → rdAll f N s = .got (acc ++ l) rest) ∧ ∀ y, rdAll f (N - i) s' = .bad y → rdAll f N s = .bad y
theorem Goes.next {f : List UInt8 → Res} {N i : Nat} {s s' rest : List UInt8} {acc : List Rep} {r : Rep} (h : Goes f N s i acc s') (hi : i < N) (hr : f s' = .got r rest) : Goes f N s (i + 1) (acc ++ [r]) rest := by
  obtain ⟨m, hm⟩ : ∃ m, N - i = m + 1 := ⟨N - i - 1, by omega⟩
  have hm2 : N - (i + 1) = m := by omega
  unfold Goes at h ⊢
  rw [hm, rdAll_step hr] at h
  rw [hm2]
  refine ⟨fun l rest' hl => ?_, fun y hy => h.2 y (by rw [hy])⟩
  have := h.1 (r :: l) rest' (by rw [hl])
  rw [this, List.append_assoc]
  rfl
theorem Goes.stop {f : List UInt8 → Res} {N i : Nat} {s s' : List UInt8} {acc : List Rep} {y : Int} (h : Goes f N s i acc s') (hi : i < N) (hr : f s' = .bad y) : rdAll f N s = .bad y := by
  obtain ⟨m, hm⟩ : ∃ m, N - i = m + 1 := ⟨N - i - 1, by omega⟩
  unfold Goes at h
  rw [hm, rdAll_stop hr] at h
  exact h.2 y rfl
theorem rdList_none {sub : Nat → List UInt8 → ResL} {t s : List UInt8} (h : num t 0 1024 = none) : rdList sub t s = .bad 41 := by unfold rdList; rw [h]
theorem rdList_some {sub : Nat → List UInt8 → ResL} {t s : List UInt8} {n : Nat} (h : num t 0 1024 = some (n : Int)) : rdList sub t s = sub n s := by unfold rdList; rw [h]; simp only [Int.toNat_natCast]
theorem num_rng {text : List UInt8} {a b v : Int} (h : num text a b = some v) : a ≤ v ∧ v ≤ b := by
  unfold num at h
  split at h
  · split at h
    · rename_i hc; injection h with h; omega
    · cases h
  · cases h
theorem Rp.shape {P : Nat → Prop} {w : World} {d : Nat} {a0 a1 : Int} {a2 : ByteArray} {p : Option Addr} {m c : Nat} {r : Rep} (h : Rp P w d (.agg #[.int .i64 a0, .int .i64 a1, .string a2, .slice p m c]) r) : a0 = r.kind ∧ a1 = r.int ∧ a2 = ⟨r.text.toArray⟩ ∧ m = r.list.length := by
  obtain ⟨_, p', c', _, e, _, _⟩ := h.open
  simp at e
  exact ⟨e.1, e.2.1, e.2.2.1, e.2.2.2.2.1⟩
set_option maxHeartbeats 4000000 in
set_option maxRecDepth 100000 in
/-- readList -/
theorem readList_of {k : Nat} (ih : ReadAt k) (z : Int) (text s : List UInt8) (w : World) (hz : z = (k : Int)) (hk : k ≤ 100) (hE : Env w) (ht : text.length ≤ 281474976710656) (hs : s.length ≤ 281474976710656) :
    Calls Tryd.prog 35 #[.string ⟨text.toArray⟩, .string ⟨s.toArray⟩, .int .i64 z] w fun e w' => ∃ (p : Option Addr) (n c : Nat) (rest : ByteArray) (x : Int), e = .returned (.tuple #[.slice p n c, .string rest, .int .i64 x]) ∧
      Hid (LOut w.heap.size w' (k + 1) p n rest x (rdList (rdAll (rd k)) text s) ∧ Below w.heap.size w w') := by
  have HN := hid (readNumber_any text 0 1024 w hE ht (by decide) (by decide))
  have HE := hid fun (W : World) (hb : Below w.heap.size w W) => hE.below hb hE.room
  have HIH := hid fun (s : List UInt8) (w : World) h1 h2 => ih z s w hz hk h1 h2
  clear ih hE hz
  cases hn : num text 0 1024 with
  | none =>
    have HR := hid (rdList_none (sub := rdAll (rd k)) (s := s) hn)
    rw [hn] at HN
    simp only [numVal] at HN
    clear hn
    go_enter Tryd.func35, Tryd.ntmps35
    go_wp2_with fail
    refine HN.out.mono ?_; rintro e w2 ⟨rfl, hb⟩
    go_wp2_with fail
    go_ret3
    exact ⟨_, _, _, _, _, rfl, by rw [HR.out]; rfl, hb.out⟩
  | some v =>
    obtain ⟨v0, v1⟩ := num_rng hn
    obtain ⟨N, rfl⟩ := Int.eq_ofNat_of_zero_le v0
    have HR := hid (rdList_some (sub := rdAll (rd k)) (s := s) hn)
    rw [hn] at HN
    simp only [numVal] at HN
    have hN : N ≤ 1024 := by omega
    clear hn v0 v1
    go_enter Tryd.func35, Tryd.ntmps35
    go_wp2_with fail
    refine HN.out.mono ?_; rintro e w1 ⟨rfl, hb⟩
    have HB1 := hid hb.out
    clear hb HN
    go_wp2_with fail
    go_loopw [1, 6, 21] (fun v1 v6 v21 W => ∃ (i : Nat) (acc : List Rep) (s' : List UInt8), v21 = .int .i64 i ∧ i ≤ N ∧ v1 = .string ⟨s'.toArray⟩ ∧ s'.length ≤ 281474976710656 ∧ acc.length = i ∧ Hid (Rws w.heap.size W (k + 1) v6 acc) ∧ Hid (Goes (rd k) N s i acc s') ∧ Hid (Below w.heap.size w W)) (fun _ _ v21 _ => N - (intOf v21).toNat)
    case atStart => exact ⟨0, [], s, rfl, Nat.zero_le _, rfl, hs, rfl, Rws.nil _ _ _, ⟨fun l rest h => h, fun y h => h⟩, HB1.out⟩
    case round =>
      obtain ⟨i, acc, s', rfl, hi, rfl, hs', hacc, HW, HG, HB⟩ := hrel
      have Hacc := hid hacc
      clear hacc
      by_cases hlt : i < N
      · have hlz : (i : Int) < (N : Int) := by omega
        have HC := hid fun (o : Obj) => HIH.out s' (wr.alloc o) (HE.out _ (HB.out.alloc HB.out.size o)) hs'
        have HZ := hid fun (o : Obj) => heap_alloc_new wr o
        go_wp2_with fail
        refine (HC.out _).mono ?_; rintro e w2 ⟨a0, a1, a2, p, m, c, rest, x, rfl, hh⟩
        have HH := hid hh.out
        have HRw := hid ((HH.out.2.block _ (by simp)).trans (HZ.out _))
        clear hh HC
        go_wp2_with (refine wpList_store_row rfl 24 _ _ rfl wr.heap.size #[.int .i64 a0, .int .i64 a1, .string a2, .slice p m c] rfl rfl 24 _ HRw.out (infoRep _ _ _ _) rfl (oneR _ _ _ _ _ _) (Hid.out ?_))
        have HR2 := hid (setRow_heap w2 _ _ #[.int .i64 a0, .int .i64 a1, .string a2, .slice p m c] _ _ HRw.out)
        have HBw : Hid (Below wr.heap.size wr (w2.setRow wr.heap.size #[.int .i64 a0, .int .i64 a1, .string a2, .slice p m c])) := below_setRow ((below_alloc wr _).trans (HH.out.2.mono (by simp))) (Nat.le_refl _) _
        have HO : Hid (∀ b, wr.heap.size < b → (w2.setRow wr.heap.size #[.int .i64 a0, .int .i64 a1, .string a2, .slice p m c]).heap[b]? = w2.heap[b]?) := fun b hb => setRow_other w2 _ b _ (by omega)
        have HRd := hid HH.out.1
        generalize w2.setRow wr.heap.size #[.int .i64 a0, .int .i64 a1, .string a2, .slice p m c] = W2 at HR2 HBw HO ⊢
        refine hid ?_
        clear HH HRw
        cases hrd : rd k s' with
        | bad y =>
          have hx : x = y := by have := HRd.out; rw [hrd] at this; exact this
          subst hx
          have hx0 : (x != 0) = true := by rcases rd_bad hrd with rfl | rfl <;> rfl
          have HS := hid (HG.out.stop hlt hrd)
          clear hrd
          go_wp2_with fail
          go_ret3
          exact ⟨_, _, _, _, _, rfl, by rw [HR.out, HS.out]; rfl, HB.out.trans (HBw.out.mono HB.out.size)⟩
        | got r rest' =>
          obtain ⟨rfl, rfl, hrp⟩ : x = 0 ∧ rest = ⟨rest'.toArray⟩ ∧ Rp (fun b => (wr.alloc (.cells #[.int .i64 0, .int .i64 0, .string ⟨#[]⟩, .slice none 0 0] 24)).heap.size ≤ b) w2 (k + 1) (.agg #[.int .i64 a0, .int .i64 a1, .string a2, .slice p m c]) r := by
            have := HRd.out; rw [hrd] at this; exact this
          obtain ⟨rfl, rfl, rfl, rfl⟩ := hrp.shape
          have HS := hid (HG.out.next hlt hrd)
          have hrl := rd_rest hrd
          have hrp2 : Rp (fun b => w.heap.size ≤ b ∧ some b ≠ u6.ownBlock) W2 (k + 1) (.agg #[.int .i64 r.kind, .int .i64 r.int, .string ⟨r.text.toArray⟩, .slice p r.list.length c]) r :=
            hrp.turn (fun b hb _ => by
              simp at hb
              have h1 := HB.out.size
              refine ⟨⟨by omega, fun e => ?_⟩, HO.out b (by omega)⟩
              have := (HW.out.own_lt e).2
              omega) (Nat.le_refl _)
          obtain ⟨v', W3, hrun, hw3, hb3⟩ := (HW.out.below HBw.out).push (r := r) (q := p) (c := c) (Nat.le_trans HB.out.size HBw.out.size) (by have := Hacc.out; omega) hrp2
          have HRun := hid hrun
          have HW3 := hid hw3
          have HB3 := hid ((HB.out.trans (HBw.out.mono HB.out.size)).trans hb3)
          have hsz3 := HBw.out.size
          clear hrd hrp hrp2 hrun hw3 hb3 HRd HO
          go_wp2_with (first | (refine wpList_load_row rfl 24 _ rfl wr.heap.size rfl 24 _ (0, 0) _ HR2.out Tryd.underlying24 rfl (infoRep _ _ _ _) ?_) | (at_builtin; refine wpList_append_runs rfl _ _ 22 22 rfl _ _ _ _ rfl rfl HRun.out ?_))
          refine ⟨⟨i + 1, acc ++ [r], rest', by go_num, by omega, rfl, by omega, by simp [Hacc.out], HW3.out, HS.out, HB3.out⟩, by simp [intOf]; omega⟩
      · obtain ⟨p6, c6, rfl⟩ := HW.out.shape
        have HS : Hid (rdAll (rd k) N s = .got acc s') := by
          have := HG.out.1 [] s' (by rw [show N - i = 0 by omega]; rfl)
          rw [List.append_nil] at this
          exact this
        go_wp2_with fail
        go_ret3
        refine ⟨_, _, _, _, _, rfl, ?_, HB.out⟩
        rw [HR.out, HS.out]
        exact ⟨rfl, rfl, rfl, HW.out.row.2⟩

end Go.Proofs.YtngkbacnajgmcaaDoor
