/- PutP, RefPut. -/
import Derived.Test.YtoecokidooaaoaaGreatDoorM23
import Derived.Deep.DeepCutAuto
import Derived.Test.YtoecokidooaaoaaGreatDoorM16
namespace Go.Proofs.YtoecokidooaaoaaGreatDoor

def argBad (x : E8) (now : Int) : Prop := 1024 < x.key.length ∨ x.ends < 0 ∨ 1099511627776 < x.ends ∨ (0 < x.ends ∧ x.ends ≤ now)
/-- one entry more is gone through: is the new one put ahead of it? -/
def stepI (x : E8) (s : List E8 × Bool) (y : E8) : List E8 × Bool := if s.2 = false ∧ x.key < y.key then (s.1 ++ [x] ++ [y], true) else (s.1 ++ [y], s.2)
def stI (x : E8) (l : List E8) : List E8 × Bool := l.foldl (stepI x) ([], false)
def insX (x : E8) (l : List E8) : List E8 := if (stI x l).2 = true then (stI x l).1 else (stI x l).1 ++ [x]
theorem stI_take {x : E8} {l : List E8} {i : Nat} (h : i < l.length) : stI x (l.take (i + 1)) = stepI x (stI x (l.take i)) l[i] := by
  unfold stI
  rw [List.take_succ_eq_append_getElem h, List.foldl_append]
  rfl
theorem stI_mem (x : E8) (l : List E8) : (∀ y ∈ (stI x l).1, y = x ∨ y ∈ l) := by
  have key : ∀ (l : List E8) (s : List E8 × Bool), ∀ y ∈ (l.foldl (stepI x) s).1, y = x ∨ y ∈ s.1 ∨ y ∈ l := by
    intro l
    induction l with
    | nil => intro s y hy; exact .inr (.inl hy)
    | cons z l ih =>
      intro s y hy
      rcases ih _ y hy with h | h | h
      · exact .inl h
      · unfold stepI at h
        split at h
        · rcases List.mem_append.1 h with h | h
          · rcases List.mem_append.1 h with h | h
            · exact .inr (.inl h)
            · exact .inl (List.mem_singleton.1 h)
          · exact .inr (.inr (by rw [List.mem_singleton.1 h]; exact List.mem_cons_self))
        · rcases List.mem_append.1 h with h | h
          · exact .inr (.inl h)
          · exact .inr (.inr (by rw [List.mem_singleton.1 h]; exact List.mem_cons_self))
      · exact .inr (.inr (List.mem_cons_of_mem _ h))
  intro y hy
  rcases key l ([], false) y hy with h | h | h
  · exact .inl h
  · cases h
  · exact .inr h
theorem insX_mem {x : E8} {l : List E8} : ∀ y ∈ insX x l, y = x ∨ y ∈ l := by
  intro y hy
  unfold insX at hy
  split at hy
  · exact stI_mem x l y hy
  · rcases List.mem_append.1 hy with h | h
    · exact stI_mem x l y h
    · exact .inl (List.mem_singleton.1 h)
theorem stI_len (x : E8) (l : List E8) : (stI x l).1.length ≤ l.length + 1 := by
  have key : ∀ (l : List E8) (s : List E8 × Bool), (l.foldl (stepI x) s).1.length ≤ s.1.length + l.length + (if s.2 = true then 0 else 1) := by
    intro l
    induction l with
    | nil => intro s; simp
    | cons z l ih =>
      intro s
      have := ih (stepI x s z)
      rw [List.foldl_cons]
      refine Nat.le_trans this ?_
      unfold stepI
      split
      · rename_i h; simp [h.1]; omega
      · simp; omega
  have := key l ([], false)
  simp at this
  exact this
open Classical in
/-- what Put answers, and what it leaves -/
noncomputable def putE (R : List E8) (room now : Int) (x : E8) : Int :=
  if argBad x now then 1 else if rightB x.m = false then 100
  else if ((getR x.key R).isSome = false ∧ 4096 ≤ R.length) ∨ (room < ((memR (delR x.key R) + tk x : Nat) : Int) ∧ memR R < memR (delR x.key R) + tk x) then 110 else 0
noncomputable def putR (R : List E8) (room now : Int) (x : E8) : List E8 := if putE R room now x = 0 then insX x (delR x.key R) else R
theorem putE_arg {R : List E8} {room now : Int} {x : E8} (h : argBad x now) : putE R room now x = 1 := if_pos h
theorem putE_form {R : List E8} {room now : Int} {x : E8} (h : ¬ argBad x now) (h2 : rightB x.m = false) : putE R room now x = 100 := by unfold putE; rw [if_neg h, if_pos h2]
theorem putE_full {R : List E8} {room now : Int} {x : E8} (h : ¬ argBad x now) (h2 : rightB x.m = true) (h3 : ((getR x.key R).isSome = false ∧ 4096 ≤ R.length) ∨ (room < ((memR (delR x.key R) + tk x : Nat) : Int) ∧ memR R < memR (delR x.key R) + tk x)) : putE R room now x = 110 := by
  unfold putE; rw [if_neg h, if_neg (by rw [h2]; decide), if_pos h3]
theorem putE_ok {R : List E8} {room now : Int} {x : E8} (h : ¬ argBad x now) (h2 : rightB x.m = true) (h3 : ¬ (((getR x.key R).isSome = false ∧ 4096 ≤ R.length) ∨ (room < ((memR (delR x.key R) + tk x : Nat) : Int) ∧ memR R < memR (delR x.key R) + tk x))) : putE R room now x = 0 := by
  unfold putE; rw [if_neg h, if_neg (by rw [h2]; decide), if_neg h3]
theorem putR_no {R : List E8} {room now : Int} {x : E8} (h : putE R room now x ≠ 0) : putR R room now x = R := if_neg h
theorem putR_ok {R : List E8} {room now : Int} {x : E8} (h : putE R room now x = 0) : putR R room now x = insX x (delR x.key R) := if_pos h

end Go.Proofs.YtoecokidooaaoaaGreatDoor

namespace Go.Proofs.YtoecokidooaaoaaGreatDoor
open Go.RowKit

/-- what Put tells -/
def PutIs (P : Nat → Prop) (pa : Option Addr) (c : Nat) (R : List E8) (room now : Int) (x : E8) (w : World) (R' : List E8) (er : Int) : Prop :=
  Calls Tryz.prog 38 #[sv pa R.length c room now, ev x] w fun e w' => ∃ q d, e = .returned (.tuple #[sv q R'.length d room now, .int .i64 er]) ∧ Hid (Rde (Pn P w.heap.size) w' q d R' ∧ Below w.heap.size w w')
theorem al_three (w : World) (a b d : Obj) : Below w.heap.size w (((w.alloc a).alloc b).alloc d) ∧ (((w.alloc a).alloc b).alloc d).heap[w.heap.size]? = some a ∧ (((w.alloc a).alloc b).alloc d).heap[w.heap.size + 1]? = some b ∧ (((w.alloc a).alloc b).alloc d).heap[w.heap.size + 2]? = some d ∧ (((w.alloc a).alloc b).alloc d).heap.size = w.heap.size + 3 := by
  have h := al_two w a b
  have hb := below_alloc ((w.alloc a).alloc b) d
  have hn := heap_alloc_new ((w.alloc a).alloc b) d
  rw [h.2.2.2] at hb hn
  exact ⟨h.1.trans (hb.mono (by omega)), (hb.block _ (by omega)).trans h.2.1, (hb.block _ (by omega)).trans h.2.2.1, hn, by simp⟩
theorem Rde.pn {P : Nat → Prop} {w W : World} {pa : Option Addr} {c : Nat} {R : List E8} (h : Rde P w pa c R) (hb : Below w.heap.size w W) : Rde (Pn P w.heap.size) W pa c R := h.keep (Keep.of_below hb) (fun _ hi => .inl hi)

set_option maxHeartbeats 4000000 in
set_option maxRecDepth 100000 in
theorem put_b1 (P : Nat → Prop) (pa : Option Addr) (c : Nat) (R : List E8) (room now : Int) (x : E8) (w : World) (h : Rde P w pa c R) (hk : x.key.length ≤ 140737488351232) (h1 : 1024 < x.key.length) : PutIs P pa c R room now x w R 1 := by
  have HA := hid (al_three w (sob pa R.length c room now) (eob x) (sob none 0 0 0 0))
  have HA2 := hid (al_three w (sob pa R.length c room now) (eob x) (sob pa R.length c room now))
  have HR := hid (h.pn HA2.out.1)
  obtain ⟨s0, s1, s2⟩ := sp_facts HA.out.2.1
  obtain ⟨x0, x1, x2, x3, x4, x5, x6, x7⟩ := ent_facts HA.out.2.2.1
  have hkz : (x.key.length : Int) ≤ 140737488351232 := by omega
  unfold PutIs
  generalize R.length = n at *
  have z1 : (1024 : Int) < (x.key.length : Int) := by omega
  clear h1
  clear h hk
  go_enter Tryz.func38, Tryz.ntmps38
  go_wp2_with fail
  exact bodyPost_ret (v := .tuple #[sv pa n c room now, .int .i64 1]) (ret_stel rfl rfl rfl HA2.out.2.2.2.1) rfl ⟨pa, c, rfl, HR.out, HA2.out.1⟩
set_option maxHeartbeats 4000000 in
set_option maxRecDepth 100000 in
theorem put_b2 (P : Nat → Prop) (pa : Option Addr) (c : Nat) (R : List E8) (room now : Int) (x : E8) (w : World) (h : Rde P w pa c R) (hk : x.key.length ≤ 140737488351232) (h1 : ¬ 1024 < x.key.length) (h2 : x.ends < 0) : PutIs P pa c R room now x w R 1 := by
  have HA := hid (al_three w (sob pa R.length c room now) (eob x) (sob none 0 0 0 0))
  have HA2 := hid (al_three w (sob pa R.length c room now) (eob x) (sob pa R.length c room now))
  have HR := hid (h.pn HA2.out.1)
  obtain ⟨s0, s1, s2⟩ := sp_facts HA.out.2.1
  obtain ⟨x0, x1, x2, x3, x4, x5, x6, x7⟩ := ent_facts HA.out.2.2.1
  have hkz : (x.key.length : Int) ≤ 140737488351232 := by omega
  unfold PutIs
  generalize R.length = n at *
  have z1 : (x.key.length : Int) ≤ 1024 := by omega
  clear h1
  clear h hk
  go_enter Tryz.func38, Tryz.ntmps38
  go_wp2_with fail
  exact bodyPost_ret (v := .tuple #[sv pa n c room now, .int .i64 1]) (ret_stel rfl rfl rfl HA2.out.2.2.2.1) rfl ⟨pa, c, rfl, HR.out, HA2.out.1⟩
set_option maxHeartbeats 4000000 in
set_option maxRecDepth 100000 in
theorem put_b3 (P : Nat → Prop) (pa : Option Addr) (c : Nat) (R : List E8) (room now : Int) (x : E8) (w : World) (h : Rde P w pa c R) (hk : x.key.length ≤ 140737488351232) (h1 : ¬ 1024 < x.key.length) (h3 : 1099511627776 < x.ends) : PutIs P pa c R room now x w R 1 := by
  have HA := hid (al_three w (sob pa R.length c room now) (eob x) (sob none 0 0 0 0))
  have HA2 := hid (al_three w (sob pa R.length c room now) (eob x) (sob pa R.length c room now))
  have HR := hid (h.pn HA2.out.1)
  obtain ⟨s0, s1, s2⟩ := sp_facts HA.out.2.1
  obtain ⟨x0, x1, x2, x3, x4, x5, x6, x7⟩ := ent_facts HA.out.2.2.1
  have hkz : (x.key.length : Int) ≤ 140737488351232 := by omega
  unfold PutIs
  generalize R.length = n at *
  have z1 : (x.key.length : Int) ≤ 1024 := by omega
  have z2 : 0 ≤ x.ends := by omega
  clear h1
  clear h hk
  go_enter Tryz.func38, Tryz.ntmps38
  go_wp2_with fail
  exact bodyPost_ret (v := .tuple #[sv pa n c room now, .int .i64 1]) (ret_stel rfl rfl rfl HA2.out.2.2.2.1) rfl ⟨pa, c, rfl, HR.out, HA2.out.1⟩
set_option maxHeartbeats 4000000 in
set_option maxRecDepth 100000 in
theorem put_b4 (P : Nat → Prop) (pa : Option Addr) (c : Nat) (R : List E8) (room now : Int) (x : E8) (w : World) (h : Rde P w pa c R) (hk : x.key.length ≤ 140737488351232) (h1 : ¬ 1024 < x.key.length) (h2 : ¬ x.ends < 0) (h3 : ¬ 1099511627776 < x.ends) (h4 : 0 < x.ends) (h5 : x.ends ≤ now) : PutIs P pa c R room now x w R 1 := by
  have HA := hid (al_three w (sob pa R.length c room now) (eob x) (sob none 0 0 0 0))
  have HA2 := hid (al_three w (sob pa R.length c room now) (eob x) (sob pa R.length c room now))
  have HR := hid (h.pn HA2.out.1)
  obtain ⟨s0, s1, s2⟩ := sp_facts HA.out.2.1
  obtain ⟨x0, x1, x2, x3, x4, x5, x6, x7⟩ := ent_facts HA.out.2.2.1
  have hkz : (x.key.length : Int) ≤ 140737488351232 := by omega
  unfold PutIs
  generalize R.length = n at *
  have z1 : (x.key.length : Int) ≤ 1024 := by omega
  have z2 : 0 ≤ x.ends := by omega
  have z3 : x.ends ≤ 1099511627776 := by omega
  clear h1 h2 h3
  clear h hk
  go_enter Tryz.func38, Tryz.ntmps38
  go_wp2_with fail
  exact bodyPost_ret (v := .tuple #[sv pa n c room now, .int .i64 1]) (ret_stel rfl rfl rfl HA2.out.2.2.2.1) rfl ⟨pa, c, rfl, HR.out, HA2.out.1⟩
/-- the three blocks that Put begins with -/
structure Bx (w : World) (pa : Option Addr) (n c : Nat) (room now : Int) (x : E8) (W : World) : Prop where
  bel : Below (w.heap.size + 3) (((w.alloc (sob pa n c room now)).alloc (eob x)).alloc (sob none 0 0 0 0)) W
theorem Bx.s {w : World} {pa : Option Addr} {n c : Nat} {room now : Int} {x : E8} {W : World} (h : Bx w pa n c room now x W) : W.heap[w.heap.size]? = some (sob pa n c room now) := (h.bel.block _ (by omega)).trans (al_three w _ _ _).2.1
theorem Bx.e {w : World} {pa : Option Addr} {n c : Nat} {room now : Int} {x : E8} {W : World} (h : Bx w pa n c room now x W) : W.heap[w.heap.size + 1]? = some (eob x) := (h.bel.block _ (by omega)).trans (al_three w _ _ _).2.2.1
theorem Bx.r {w : World} {pa : Option Addr} {n c : Nat} {room now : Int} {x : E8} {W : World} (h : Bx w pa n c room now x W) : W.heap[w.heap.size + 2]? = some (sob none 0 0 0 0) := (h.bel.block _ (by omega)).trans (al_three w _ _ _).2.2.2.1
theorem Bx.all {w : World} {pa : Option Addr} {n c : Nat} {room now : Int} {x : E8} {W : World} (h : Bx w pa n c room now x W) : Below w.heap.size w W := (al_three w _ _ _).1.trans (h.bel.mono (by omega))
theorem Bx.size {w : World} {pa : Option Addr} {n c : Nat} {room now : Int} {x : E8} {W : World} (h : Bx w pa n c room now x W) : w.heap.size + 3 ≤ W.heap.size := by have := h.bel.size; simpa using this
theorem Bx.go {w : World} {pa : Option Addr} {n c : Nat} {room now : Int} {x : E8} {W W' : World} (h : Bx w pa n c room now x W) (hb : Below W.heap.size W W') : Bx w pa n c room now x W' := ⟨h.bel.trans (hb.mono h.size)⟩
theorem Bx.start (w : World) (pa : Option Addr) (n c : Nat) (room now : Int) (x : E8) : Bx w pa n c room now x (((w.alloc (sob pa n c room now)).alloc (eob x)).alloc (sob none 0 0 0 0)) := ⟨Below.refl _ _⟩
/-- what Put ends with, where it refuses -/
theorem put_same {w wr : World} {a b d : Value} {pa : Option Addr} {n c : Nat} {room now : Int} {x : E8} (hB : Bx w pa n c room now x wr) :
    (((wr.setCell ⟨w.heap.size + 2, 0, none⟩ a).setCell ⟨w.heap.size + 2, 1, none⟩ b).setCell ⟨w.heap.size + 2, 2, none⟩ d).heap[w.heap.size + 2]? = some (.cells #[a, b, d] 26 (0, 0)) ∧ Below w.heap.size w (((wr.setCell ⟨w.heap.size + 2, 0, none⟩ a).setCell ⟨w.heap.size + 2, 1, none⟩ b).setCell ⟨w.heap.size + 2, 2, none⟩ d) := set_three hB.r hB.all (by omega)

set_option maxHeartbeats 16000000 in
set_option maxRecDepth 100000 in
theorem put_form (P : Nat → Prop) (pa : Option Addr) (c : Nat) (R : List E8) (room now : Int) (x : E8) (w : World) (h : Rde P w pa c R) (hx : Ok8 x) (hLx : Lies P w x) (hl : R.length ≤ 5000) (hok : ∀ y ∈ R, Ok8 y) (g1 : ¬ 1024 < x.key.length) (g2 : ¬ x.ends < 0) (g3 : ¬ 1099511627776 < x.ends) (g4 : x.ends = 0 ∨ (0 < x.ends ∧ now < x.ends)) (hr : rightB x.m = false) : PutIs P pa c R room now x w R 100 := by
  have H := hid h
  have HLx := hid hLx
  have HOk := hid hok
  have HOx := hid hx
  have z1 : (x.key.length : Int) ≤ 1024 := by omega
  have z2 : 0 ≤ x.ends := by omega
  have z3 : x.ends ≤ 1099511627776 := by omega
  have hlz : (R.length : Int) ≤ 5000 := by omega
  have HB0 := hid (Bx.start w pa R.length c room now x)
  have HRt := hid (fun W k => rright10_any x.m x.pp x.pc x.ip x.ic W hx.m k)
  obtain ⟨s0, s1, s2⟩ := sp_facts HB0.out.s
  obtain ⟨x0, x1, x2, x3, x4, x5, x6, x7⟩ := ent_facts HB0.out.e
  unfold PutIs
  rw [hr] at HRt
  clear h hx hLx hok hr g1 g2 g3
  rcases g4 with g4 | ⟨g4, g5⟩
  · have y1 : x.ends ≤ 0 := by omega
    clear g4
    go_enter Tryz.func38, Tryz.ntmps38
    go_wp2_with fail
    refine (HRt.out _ (HLx.out.vi.below HB0.out.all)).mono ?_; rintro e w1 ⟨rfl, hh⟩
    have HB1 := hid (HB0.out.go hh.out)
    clear hh s0 s1 s2 x0 x1 x2 x3 x4 x5 x6 x7
    obtain ⟨s0, s1, s2⟩ := sp_facts HB1.out.s
    obtain ⟨r0, r1, r2⟩ := sp_facts HB1.out.r
    obtain ⟨f0, f1, f2⟩ := sp_frozen HB1.out.r
    go_wp2_with fail
    exact bodyPost_ret (v := .tuple #[sv pa R.length c room now, .int .i64 100]) (ret_stel rfl rfl rfl (put_same HB1.out).1) rfl ⟨pa, c, rfl, H.out.pn (put_same HB1.out).2, (put_same HB1.out).2⟩
  · go_enter Tryz.func38, Tryz.ntmps38
    go_wp2_with fail
    refine (HRt.out _ (HLx.out.vi.below HB0.out.all)).mono ?_; rintro e w1 ⟨rfl, hh⟩
    have HB1 := hid (HB0.out.go hh.out)
    clear hh s0 s1 s2 x0 x1 x2 x3 x4 x5 x6 x7
    obtain ⟨s0, s1, s2⟩ := sp_facts HB1.out.s
    obtain ⟨r0, r1, r2⟩ := sp_facts HB1.out.r
    obtain ⟨f0, f1, f2⟩ := sp_frozen HB1.out.r
    go_wp2_with fail
    exact bodyPost_ret (v := .tuple #[sv pa R.length c room now, .int .i64 100]) (ret_stel rfl rfl rfl (put_same HB1.out).1) rfl ⟨pa, c, rfl, H.out.pn (put_same HB1.out).2, (put_same HB1.out).2⟩
theorem put_end {w wr : World} {S : List E8} {B : Nat} {q : Option Addr} {n d : Nat} {pa : Option Addr} {m c : Nat} {room now : Int} {x : E8} (hB : Bx w pa m c room now x wr) (hO : OwnE B wr (.slice q n d) S) (hb : w.heap.size + 3 ≤ B) :
    ((((wr.setCell ⟨w.heap.size, 0, none⟩ (.slice q n d)).setCell ⟨w.heap.size + 2, 0, none⟩ (.slice q n d)).setCell ⟨w.heap.size + 2, 1, none⟩ (.int .i64 room)).setCell ⟨w.heap.size + 2, 2, none⟩ (.int .i64 now)).heap[w.heap.size + 2]? = some (.cells #[.slice q n d, .int .i64 room, .int .i64 now] 26 (0, 0)) ∧
      OwnE B ((((wr.setCell ⟨w.heap.size, 0, none⟩ (.slice q n d)).setCell ⟨w.heap.size + 2, 0, none⟩ (.slice q n d)).setCell ⟨w.heap.size + 2, 1, none⟩ (.int .i64 room)).setCell ⟨w.heap.size + 2, 2, none⟩ (.int .i64 now)) (.slice q n d) S ∧
      Below w.heap.size w ((((wr.setCell ⟨w.heap.size, 0, none⟩ (.slice q n d)).setCell ⟨w.heap.size + 2, 0, none⟩ (.slice q n d)).setCell ⟨w.heap.size + 2, 1, none⟩ (.int .i64 room)).setCell ⟨w.heap.size + 2, 2, none⟩ (.int .i64 now)) := by
  have h1 := (Below.heap_setCell wr ⟨w.heap.size, 0, none⟩ (.slice q n d) (w.heap.size + 2) (by simp)).trans hB.r
  have h2 := hB.all.setCell (p := ⟨w.heap.size, 0, none⟩) (Nat.le_refl _) (.slice q n d)
  obtain ⟨k1, k2⟩ := set_three (v0 := .slice q n d) (v1 := .int .i64 room) (v2 := .int .i64 now) h1 h2 (by omega)
  exact ⟨k1, owne_set (owne_set (owne_set (owne_set hO _ _ _ (by omega)) _ _ _ (by omega)) _ _ _ (by omega)) _ _ _ (by omega), k2⟩
theorem put_rde {B : Nat} {P : Nat → Prop} {w W : World} {p q : Option Addr} {c n d : Nat} {R S : List E8} {x : E8} (h : Rde P w p c R) (hx : Lies P w x) (hb : Below w.heap.size w W) (ho : OwnE B W (.slice q n d) S) (hB : w.heap.size ≤ B) (hS : ∀ y ∈ S, y = x ∨ y ∈ R) : Rde (Pn P w.heap.size) W q d S :=
  ho.rde (fun k hk => .inr (by omega)) (fun y hy => by
    rcases hS y hy with rfl | h'
    · exact hx.keep (Keep.of_below hb) (fun _ hi => .inl hi)
    · exact (h.lies y h').keep (Keep.of_below hb) (fun _ hi => .inl hi))
set_option maxHeartbeats 16000000 in
set_option maxRecDepth 100000 in
theorem put_rest (P : Nat → Prop) (pa : Option Addr) (c : Nat) (R : List E8) (room now : Int) (x : E8) (w : World) (h : Rde P w pa c R) (hx : Ok8 x) (hLx : Lies P w x) (hl : R.length ≤ 5000) (hok : ∀ y ∈ R, Ok8 y) (g1 : ¬ 1024 < x.key.length) (g2 : ¬ x.ends < 0) (g3 : ¬ 1099511627776 < x.ends) (g4 : x.ends = 0 ∨ (0 < x.ends ∧ now < x.ends)) (hr : rightB x.m = true) : PutIs P pa c R room now x w (putR R room now x) (putE R room now x) := by
  have H := hid h
  have HLx := hid hLx
  have HOk := hid hok
  have HOx := hid hx
  have z1 : (x.key.length : Int) ≤ 1024 := by omega
  have z2 : 0 ≤ x.ends := by omega
  have z3 : x.ends ≤ 1099511627776 := by omega
  have hlz : (R.length : Int) ≤ 5000 := by omega
  have HB0 := hid (Bx.start w pa R.length c room now x)
  have HRt := hid (fun W k => rright10_any x.m x.pp x.pc x.ip x.ic W hx.m k)
  obtain ⟨s0, s1, s2⟩ := sp_facts HB0.out.s
  obtain ⟨x0, x1, x2, x3, x4, x5, x6, x7⟩ := ent_facts HB0.out.e
  unfold PutIs
  rw [hr] at HRt
  have HG := hid (fun W k => qget_any P pa c R room now x.key W k (by omega))
  have HD := hid (fun W k => qdel_any P pa c R room now x.key W k (by omega))
  have HMR := hid (fun W k => qmem_any P pa c R room now W k (by omega) hok)
  have HTk := hid (fun W k => qtakes_any x W hx k)
  have htl : (delR x.key R).length ≤ R.length := List.length_filter_le _ _
  have HMT := hid (fun Q q d W k => qmem_any Q q d (delR x.key R) room now W k (by omega) (fun y hy => hok y (List.mem_filter.1 hy).1))
  have hmT : memR (delR x.key R) ≤ 140737489351300 * 5000 := by
    have := memR_le (R := delR x.key R) (fun y hy => hok y (List.mem_filter.1 hy).1) (delR x.key R).length (Nat.le_refl _)
    rw [List.take_length] at this
    exact Nat.le_trans this (by omega)
  have hmR : memR R ≤ 140737489351300 * 5000 := by
    have := memR_le hok R.length (Nat.le_refl _)
    rw [List.take_length] at this
    exact Nat.le_trans this (by omega)
  have htk := tk_le hx
  have hnb : ¬ argBad x now := by
    rintro (k | k | k | ⟨k1, k2⟩)
    · exact g1 k
    · exact g2 k
    · exact g3 k
    · rcases g4 with g | ⟨g, g'⟩ <;> omega
  have HFull := hid (putE_full (R := R) (room := room) hnb hr)
  have HFine := hid (putE_ok (R := R) (room := room) hnb hr)
  clear h hx hLx hok hr g1 g2 g3 hnb
  obtain ⟨T, hT⟩ : ∃ T, T = delR x.key R := ⟨_, rfl⟩
  have HT := hid hT
  rw [← hT] at HD HMT hmT HFull HFine htl
  obtain ⟨mT, hmTe⟩ : ∃ mT, mT = memR T := ⟨_, rfl⟩
  obtain ⟨mR, hmRe⟩ : ∃ mR, mR = memR R := ⟨_, rfl⟩
  obtain ⟨mX, hmXe⟩ : ∃ mX, mX = tk x := ⟨_, rfl⟩
  rw [← hmTe] at HMT hmT HFull HFine
  rw [← hmRe] at HMR hmR HFull HFine
  rw [← hmXe] at HTk htk HFull HFine
  obtain ⟨is, his⟩ : ∃ is, is = (getR x.key R).isSome := ⟨_, rfl⟩
  rw [← his] at HG HFull HFine
  obtain ⟨y, hy⟩ : ∃ y, y = (getR x.key R).getD zero8 := ⟨_, rfl⟩
  rw [← hy] at HG
  have m1 : (mT : Int) ≤ 703687446756500000 := by omega
  have m2 : (mR : Int) ≤ 703687446756500000 := by omega
  have m3 : (mX : Int) ≤ 140737489351300 := by omega
  have hws : IntKind.i64.wrap ((mT : Int) + (mX : Int)) = (mT : Int) + (mX : Int) := by rw [IntKind.wrap_i64]; omega
  have htlz : (T.length : Int) ≤ 5000 := by omega
  clear hT hmTe hmRe hmXe his hy hmT hmR htk
  have y1 : x.ends ≤ 0 ∨ (0 < x.ends ∧ now < x.ends) := by rcases g4 with g | g; exact .inl (by omega); exact .inr g
  clear g4

  · go_enter Tryz.func38, Tryz.ntmps38
    go_upto_region 1 with fail
    go_cut [39] (fun c39 wx => c39 = .bool false ∧ wx = (((w.alloc (sob pa R.length c room now)).alloc (eob x)).alloc (sob none 0 0 0 0)))
    case first =>
      rcases y1 with y1 | ⟨y1, y2⟩
      all_goals (go_wp2_with fail; go_meet; exact ⟨by simp; omega, rfl⟩)
    case rest =>
    obtain ⟨rfl, rfl⟩ := hcut
    go_wp2_with fail
    refine (HRt.out _ (HLx.out.vi.below HB0.out.all)).mono ?_; rintro e w1 ⟨rfl, hh⟩
    have HB1 := hid (HB0.out.go hh.out)
    clear hh s0 s1 s2 x0 x1 x2 x3 x4 x5 x6 x7
    obtain ⟨s0, s1, s2⟩ := sp_facts HB1.out.s
    obtain ⟨x0, x1, x2, x3, x4, x5, x6, x7⟩ := ent_facts HB1.out.e
    go_wp2_with fail
    refine (HG.out _ (H.out.below HB1.out.all)).mono ?_; rintro e w2 ⟨rfl, hh⟩
    have HB2 := hid ((HB1.out.go hh.out).go (below_alloc w2 (eob y)))
    clear hh s0 s1 s2 x0 x1 x2 x3 x4 x5 x6 x7
    obtain ⟨s0, s1, s2⟩ := sp_facts HB2.out.s
    obtain ⟨x0, x1, x2, x3, x4, x5, x6, x7⟩ := ent_facts HB2.out.e
    go_wp2_with fail
    refine (HD.out _ (H.out.below HB2.out.all)).mono ?_; rintro e w3 ⟨q, d, rfl, hh⟩
    have HB3 := hid ((HB2.out.go hh.out.2).go (below_alloc w3 (sob q T.length d room now)))
    have HRT := hid (hh.out.1.below (below_alloc w3 (sob q T.length d room now)))
    have HGt := hid (heap_alloc_new w3 (sob q T.length d room now))
    have HB3d : Hid (Bx w pa R.length c room now x (w3.alloc (sob q T.length d room now)).drew) := ⟨HB3.out.bel.drew⟩
    have HRTd := hid (HRT.out.below ((Below.refl _ _).drew))
    clear hh s0 s1 s2 x0 x1 x2 x3 x4 x5 x6 x7
    obtain ⟨s0, s1, s2⟩ := sp_facts HB3.out.s
    obtain ⟨x0, x1, x2, x3, x4, x5, x6, x7⟩ := ent_facts HB3.out.e
    obtain ⟨t0, t1, t2⟩ := sp_facts HGt.out
    go_wp2_with fail
    go_region_held3 (fun w' => w'.cell? ⟨w3.heap.size, 0, none⟩ = some (.slice q T.length d) ∧ w'.cell? ⟨w3.heap.size, 1, none⟩ = some (.int .i64 room) ∧ w'.cell? ⟨w3.heap.size, 2, none⟩ = some (.int .i64 now) ∧ w'.cell? ⟨w.heap.size + 1, 0, none⟩ = some (txt x.key) ∧ w'.cell? ⟨w.heap.size + 1, 1, none⟩ = some (.int .i64 x.m.kind) ∧ w'.cell? ⟨w.heap.size + 1, 2, none⟩ = some (txt x.m.text) ∧ w'.cell? ⟨w.heap.size + 1, 3, none⟩ = some (.slice x.pp x.m.pairs.length x.pc) ∧ w'.cell? ⟨w.heap.size + 1, 4, none⟩ = some (.slice x.ip x.m.items.length x.ic) ∧ w'.cell? ⟨w.heap.size + 1, 5, none⟩ = some (.int .i64 x.m.px) ∧ w'.cell? ⟨w.heap.size + 1, 6, none⟩ = some (.int .i64 x.m.py) ∧ w'.cell? ⟨w.heap.size + 1, 7, none⟩ = some (.int .i64 x.ends))
      (first | exact ⟨t0, t1, t2, x0, x1, x2, x3, x4, x5, x6, x7⟩ | exact ⟨k0, k1, k2, a0, a1, a2, a3, a4, a5, a6, a7⟩ | exact ⟨l0, l1, l2, b0, b1, b2, b3, b4, b5, b6, b7⟩ | go_keep)
      (first
        | (go_at_call 28; refine (HMT.out _ q d _ HRTd.out).mono ?_; rintro e w4 ⟨rfl, hh⟩; have HB4 := hid (HB3d.out.go hh.out); have HGt4 := hid ((hh.out.block w3.heap.size (by simp)).trans HGt.out); have HRT4 := hid (HRTd.out.below hh.out); clear hh; obtain ⟨k0, k1, k2⟩ := sp_facts HGt4.out; obtain ⟨a0, a1, a2, a3, a4, a5, a6, a7⟩ := ent_facts HB4.out.e)
        | (go_at_call 49; refine (HTk.out _ (HLx.out.vi.below HB4.out.all)).mono ?_; rintro e w5 ⟨rfl, hh⟩; have HB5 := hid (HB4.out.go hh.out); have HGt5 := hid ((hh.out.block w3.heap.size (Array.getElem?_eq_some_iff.1 HGt4.out).1).trans HGt4.out); have HRT5 := hid (HRT4.out.below hh.out); clear hh; obtain ⟨l0, l1, l2⟩ := sp_facts HGt5.out; obtain ⟨b0, b1, b2, b3, b4, b5, b6, b7⟩ := ent_facts HB5.out.e))
    obtain ⟨s0, s1, s2⟩ := sp_facts HB5.out.s
    obtain ⟨F, hF⟩ : ∃ F : Bool, F = true ↔ ((is = false ∧ 4096 ≤ R.length) ∨ (room < (mT : Int) + (mX : Int) ∧ (mR : Int) < (mT : Int) + (mX : Int))) := by
      classical
      exact ⟨decide _, decide_eq_true_iff⟩
    have HF := hid hF
    clear hF
    go_upto_region 8 with fail
    go_cut [84] (fun c84 wx => c84 = .bool F ∧ Hid (Bx w pa R.length c room now x wx) ∧ Hid (wx.heap[w3.heap.size]? = some (sob q T.length d room now)) ∧ Hid (Rde (Pn P (w2.alloc (eob y)).heap.size) wx q d T))
    case first =>
      have HNo : Hid (¬ ((is = false ∧ 4096 ≤ R.length) ∨ (room < (mT : Int) + (mX : Int) ∧ (mR : Int) < (mT : Int) + (mX : Int))) → F = false) := fun h => by
        cases F with
        | false => rfl
        | true => exact absurd (HF.out.1 rfl) h
      have hsec : is = true ∨ (is = false ∧ (4096 : Int) ≤ (R.length : Int)) ∨ (is = false ∧ (R.length : Int) < 4096) := by
        cases is with
        | true => exact .inl rfl
        | false => by_cases hc : 4096 ≤ R.length; exact .inr (.inl ⟨rfl, by omega⟩); exact .inr (.inr ⟨rfl, by omega⟩)
      have hthr : (mT : Int) + (mX : Int) ≤ room ∨ (room < (mT : Int) + (mX : Int) ∧ (mR : Int) < (mT : Int) + (mX : Int)) ∨ (room < (mT : Int) + (mX : Int) ∧ (mT : Int) + (mX : Int) ≤ (mR : Int)) := by omega
      rcases hsec with rfl | ⟨rfl, hc⟩ | ⟨rfl, hc⟩
      · rcases hthr with hu | ⟨hu, hv⟩ | ⟨hu, hv⟩
        · obtain rfl := HNo.out (by rintro (⟨k1, k2⟩ | ⟨k1, k2⟩); cases k1; omega)
          go_wp2_with fail
          go_meet
          first | exact ⟨rfl, HB5.out, HGt5.out, HRT5.out⟩ | exact ⟨by simp; omega, HB5.out, HGt5.out, HRT5.out⟩
        · obtain rfl := HF.out.2 (.inr ⟨hu, hv⟩)
          go_wp2_with fail
          refine (HMR.out _ (H.out.below HB5.out.all)).mono ?_; rintro e w6 ⟨rfl, hh⟩
          have HB6 := hid (HB5.out.go hh.out)
          have HGt6 := hid ((hh.out.block w3.heap.size (Array.getElem?_eq_some_iff.1 HGt5.out).1).trans HGt5.out)
          have HRT6 := hid (HRT5.out.below hh.out)
          clear hh
          go_wp2_with fail
          go_meet
          first | exact ⟨rfl, HB6.out, HGt6.out, HRT6.out⟩ | exact ⟨by simp; omega, HB6.out, HGt6.out, HRT6.out⟩
        · obtain rfl := HNo.out (by rintro (⟨k1, k2⟩ | ⟨k1, k2⟩); cases k1; omega)
          go_wp2_with fail
          refine (HMR.out _ (H.out.below HB5.out.all)).mono ?_; rintro e w6 ⟨rfl, hh⟩
          have HB6 := hid (HB5.out.go hh.out)
          have HGt6 := hid ((hh.out.block w3.heap.size (Array.getElem?_eq_some_iff.1 HGt5.out).1).trans HGt5.out)
          have HRT6 := hid (HRT5.out.below hh.out)
          clear hh
          go_wp2_with fail
          go_meet
          first | exact ⟨rfl, HB6.out, HGt6.out, HRT6.out⟩ | exact ⟨by simp; omega, HB6.out, HGt6.out, HRT6.out⟩
      · obtain rfl := HF.out.2 (.inl ⟨rfl, by omega⟩)
        go_wp2_with fail
        go_meet
        first | exact ⟨rfl, HB5.out, HGt5.out, HRT5.out⟩ | exact ⟨by simp; omega, HB5.out, HGt5.out, HRT5.out⟩
      · rcases hthr with hu | ⟨hu, hv⟩ | ⟨hu, hv⟩
        · obtain rfl := HNo.out (by rintro (⟨k1, k2⟩ | ⟨k1, k2⟩) <;> omega)
          go_wp2_with fail
          go_meet
          first | exact ⟨rfl, HB5.out, HGt5.out, HRT5.out⟩ | exact ⟨by simp; omega, HB5.out, HGt5.out, HRT5.out⟩
        · obtain rfl := HF.out.2 (.inr ⟨hu, hv⟩)
          go_wp2_with fail
          refine (HMR.out _ (H.out.below HB5.out.all)).mono ?_; rintro e w6 ⟨rfl, hh⟩
          have HB6 := hid (HB5.out.go hh.out)
          have HGt6 := hid ((hh.out.block w3.heap.size (Array.getElem?_eq_some_iff.1 HGt5.out).1).trans HGt5.out)
          have HRT6 := hid (HRT5.out.below hh.out)
          clear hh
          go_wp2_with fail
          go_meet
          first | exact ⟨rfl, HB6.out, HGt6.out, HRT6.out⟩ | exact ⟨by simp; omega, HB6.out, HGt6.out, HRT6.out⟩
        · obtain rfl := HNo.out (by rintro (⟨k1, k2⟩ | ⟨k1, k2⟩) <;> omega)
          go_wp2_with fail
          refine (HMR.out _ (H.out.below HB5.out.all)).mono ?_; rintro e w6 ⟨rfl, hh⟩
          have HB6 := hid (HB5.out.go hh.out)
          have HGt6 := hid ((hh.out.block w3.heap.size (Array.getElem?_eq_some_iff.1 HGt5.out).1).trans HGt5.out)
          have HRT6 := hid (HRT5.out.below hh.out)
          clear hh
          go_wp2_with fail
          go_meet
          first | exact ⟨rfl, HB6.out, HGt6.out, HRT6.out⟩ | exact ⟨by simp; omega, HB6.out, HGt6.out, HRT6.out⟩
    case rest =>
    obtain ⟨rfl, HB6, HGt6, HRT6⟩ := hcut
    clear s0 s1 s2 x0 x1 x2 x3 x4 x5 x6 x7 t0 t1 t2 l0 l1 l2 b0 b1 b2 b3 b4 b5 b6 b7
    obtain ⟨s0, s1, s2⟩ := sp_facts HB6.out.s
    obtain ⟨x0, x1, x2, x3, x4, x5, x6, x7⟩ := ent_facts HB6.out.e
    obtain ⟨t0, t1, t2⟩ := sp_facts HGt6.out
    cases F with
    | true =>
      have HZero := hid (HFull.out (by rcases HF.out.1 rfl with k | ⟨k1, k2⟩; exact .inl k; exact .inr ⟨by omega, by omega⟩))
      obtain ⟨r0, r1, r2⟩ := sp_facts HB6.out.r
      obtain ⟨f0, f1, f2⟩ := sp_frozen HB6.out.r
      go_wp2_with fail
      rw [HZero.out, putR_no (by rw [HZero.out]; decide)]
      exact bodyPost_ret (v := .tuple #[sv pa R.length c room now, .int .i64 110]) (ret_stel rfl rfl rfl (put_same HB6.out).1) rfl ⟨pa, c, rfl, H.out.pn (put_same HB6.out).2, (put_same HB6.out).2⟩
    | false =>
      have HZero := hid (HFine.out (fun h => by have := HF.out.2 (by rcases h with k | ⟨k1, k2⟩; exact .inl k; exact .inr ⟨by omega, by omega⟩); cases this))
      have HPut : Hid (putR R room now x = insX x T) := by rw [Hid, putR_ok HZero.out, ← HT.out]
      clear HFull HFine
      have hWl : w3.heap.size < wc.heap.size := (Array.getElem?_eq_some_iff.1 HGt6.out).1
      go_wp2_with fail
      go_loopw [11, 12, 13] (fun v11 v12 v13 X => ∃ (i : Nat) (qo : Option Addr) (no dd : Nat) (dn : Bool) (ol : List E8), v13 = .int .i64 i ∧ v11 = .slice qo no dd ∧ v12 = .bool dn ∧ i ≤ T.length ∧ Hid (stI x (T.take i) = (ol, dn)) ∧ Hid (OwnE wc.heap.size X (.slice qo no dd) ol) ∧ Hid (Below wc.heap.size wc X)) (fun _ _ v13 _ => T.length - (intOf v13).toNat)
      case atStart => exact ⟨0, none, 0, 0, false, [], rfl, rfl, rfl, Nat.zero_le _, rfl, World.ownsRow_nil _ _ _ _, Below.refl _ _⟩
      case round =>
        obtain ⟨i, qo, no, dd, dn, ol, rfl, rfl, rfl, hi, HSt, HO, HBe⟩ := hrel
        have HBi := hid (HB6.out.go HBe.out)
        have HGi := hid ((HBe.out.block w3.heap.size hWl).trans HGt6.out)
        have HLn : Hid (ol.length ≤ 5001) := by have := stI_len x (T.take i); rw [HSt.out] at this; show ol.length ≤ _; simp at this; omega
        have HBd : Hid (∀ n, Below wc.heap.size wc (wr.drewN n)) := fun n => ⟨HBe.out.os, HBe.out.tape, HBe.out.output, HBe.out.size, HBe.out.block⟩
        clear s0 s1 s2 x0 x1 x2 x3 x4 x5 x6 x7 t0 t1 t2 
        obtain ⟨s0, s1, s2⟩ := sp_facts HBi.out.s
        obtain ⟨x0, x1, x2, x3, x4, x5, x6, x7⟩ := ent_facts HBi.out.e
        obtain ⟨t0, t1, t2⟩ := sp_facts HGi.out
        by_cases hlt : i < T.length
        · have hiz : (i : Int) < (T.length : Int) := by omega
          have hrt := HRT6.out.below HBe.out
          obtain ⟨g, off, hp, -, hgl, y0, y1', y2', y3, y4, y5, y6, y7⟩ := hrt.facts i hlt
          obtain ⟨g', off', hp', -, hgl', -⟩ := HRT6.out.facts i hlt
          have hgg : g < wc.heap.size := by rw [hp] at hp'; injection hp' with hp'; injection hp' with e1 e2; rw [e1]; exact hgl'
          clear hp' hgl' hrt
          have HStep := hid (stI_take (x := x) hlt)
          rw [HSt.out] at HStep
          have HNe : Hid (T[i].key ≠ x.key) := (show ∀ y ∈ T, y.key ≠ x.key by rw [HT.out]; intro y hy; simpa using (List.mem_filter.1 hy).2) _ (List.getElem_mem hlt)
          generalize T[i] = yy at *
          subst hp
          cases dn with
          | true =>
            have HS2 : Hid (stI x (T.take (i + 1)) = (ol ++ [yy], true)) := by rw [Hid, HStep.out]; rfl
            go_wp2_with fail
            go_quiet (fail)
            have hod : OwnE wc.heap.size (wr.drewN nq) (.slice qo no dd) ol := HO.out
            obtain ⟨v7, W7, hrun, ho7, hb7⟩ := hod.push HBe.out.size yy (by have := HLn.out; show ol.length ≤ _; omega)
            rw [show (wr.drewN nq).heap.size = wr.heap.size from rfl] at hrun
            obtain ⟨qq7, dd7, rfl⟩ := ho7.shape
            obtain ⟨NN7, hNN⟩ : ∃ n, n = (ol ++ [yy]).length := ⟨_, rfl⟩
            have ho7' : OwnE wc.heap.size W7 (.slice qq7 NN7 dd7) (ol ++ [yy]) := by rw [hNN]; exact ho7
            rw [← hNN] at hrun
            have HR7 := hid hrun
            have HO7 := hid ho7'
            have HBe7 := hid ((HBd.out nq).trans hb7)
            clear hrun ho7 ho7' hNN hb7
            clear hod
            go_wp2_with (refine wpList_append_runs rfl _ _ 24 24 rfl _ _ _ _ rfl rfl HR7.out (Hid.out ?_))
            refine hid ?_
            go_wp2_with fail
            exact ⟨⟨i + 1, qq7, NN7, dd7, true, ol ++ [yy], by go_num, rfl, rfl, by omega, HS2.out, HO7.out, HBe7.out⟩, by simp [intOf]; omega⟩
          | false =>
            by_cases hbl : x.key < yy.key
            · have HS2 : Hid (stI x (T.take (i + 1)) = (ol ++ [x] ++ [yy], true)) := by rw [Hid, HStep.out]; unfold stepI; rw [if_pos ⟨rfl, hbl⟩]
              have hb1 : Op.bytesLess x.key yy.key = true := by rw [bytesLess_eq]; exact decide_eq_true hbl
              have hb2 : Op.bytesLess yy.key x.key = false := by rw [bytesLess_eq]; exact decide_eq_false (nm_lt_asymm hbl)
              have hb3 : (yy.key == x.key) = false := beq_eq_false_iff_ne.2 fun e => by rw [e] at hbl; exact nm_lt_irrefl _ hbl
              clear hbl
              go_wp2_with fail
              go_quiet (fail)
              have hod : OwnE wc.heap.size (wr.drewN nq) (.slice qo no dd) ol := HO.out
              obtain ⟨v7, W7, hrun, ho7, hb7⟩ := hod.push HBe.out.size x (by have := HLn.out; show ol.length ≤ _; omega)
              rw [show (wr.drewN nq).heap.size = wr.heap.size from rfl] at hrun
              obtain ⟨qq7, dd7, rfl⟩ := ho7.shape
              obtain ⟨NN7, hNN⟩ : ∃ n, n = (ol ++ [x]).length := ⟨_, rfl⟩
              have ho7' : OwnE wc.heap.size W7 (.slice qq7 NN7 dd7) (ol ++ [x]) := by rw [hNN]; exact ho7
              rw [← hNN] at hrun
              have HR7 := hid hrun
              have HO7 := hid ho7'
              have HBe7 := hid ((HBd.out nq).trans hb7)
              clear hrun ho7 ho7' hNN hb7
              clear hod
              go_wp2_with (refine wpList_append_runs rfl _ _ 24 24 rfl _ _ _ _ rfl rfl HR7.out (Hid.out ?_))
              refine hid ?_
              have HB7 := hid (HB6.out.go HBe7.out)
              have HG7 := hid ((HBe7.out.block w3.heap.size hWl).trans HGt6.out)
              have hkeep : W7.heap[g]? = wr.heap[g]? := (HBe7.out.block g hgg).trans (HBe.out.block g hgg).symm
              have u0 := cell_turn y0 hkeep
              have u1 := cell_turn y1' hkeep
              have u2 := cell_turn y2' hkeep
              have u3 := cell_turn y3 hkeep
              have u4 := cell_turn y4 hkeep
              have u5 := cell_turn y5 hkeep
              have u6 := cell_turn y6 hkeep
              have u7 := cell_turn y7 hkeep
              clear y0 y1' y2' y3 y4 y5 y6 y7 hkeep
              clear s0 s1 s2 x0 x1 x2 x3 x4 x5 x6 x7 t0 t1 t2 
              obtain ⟨s0, s1, s2⟩ := sp_facts HB7.out.s
              obtain ⟨x0, x1, x2, x3, x4, x5, x6, x7⟩ := ent_facts HB7.out.e
              obtain ⟨t0, t1, t2⟩ := sp_facts HG7.out
              obtain ⟨v8, W8, hrun, ho8, hb8⟩ := HO7.out.push HBe7.out.size yy (by have := HLn.out; rw [List.length_append]; show ol.length + 1 ≤ _; omega)
              obtain ⟨qq8, dd8, rfl⟩ := ho8.shape
              obtain ⟨NN8, hNN⟩ : ∃ n, n = (ol ++ [x] ++ [yy]).length := ⟨_, rfl⟩
              have ho8' : OwnE wc.heap.size W8 (.slice qq8 NN8 dd8) (ol ++ [x] ++ [yy]) := by rw [hNN]; exact ho8
              rw [← hNN] at hrun
              have HR8 := hid hrun
              have HO8 := hid ho8'
              have HBe8 := hid (HBe7.out.trans hb8)
              clear hrun ho8 ho8' hNN hb8
              go_wp2_with (refine wpList_append_runs rfl _ _ 24 24 rfl _ _ _ _ rfl rfl HR8.out (Hid.out ?_))
              refine hid ?_
              go_wp2_with fail
              exact ⟨⟨i + 1, qq8, NN8, dd8, true, ol ++ [x] ++ [yy], by go_num, rfl, rfl, by omega, HS2.out, HO8.out, HBe8.out⟩, by simp [intOf]; omega⟩
            · have HS2 : Hid (stI x (T.take (i + 1)) = (ol ++ [yy], false)) := by rw [Hid, HStep.out]; unfold stepI; rw [if_neg (fun h => hbl h.2)]
              have hb1 : Op.bytesLess x.key yy.key = false := by rw [bytesLess_eq]; exact decide_eq_false hbl
              have hlt3 : yy.key < x.key := by rcases nm_lt_or x.key yy.key with h | h | h; exact absurd h hbl; exact absurd h.symm HNe.out; exact h
              have hb2 : Op.bytesLess yy.key x.key = true := by rw [bytesLess_eq]; exact decide_eq_true hlt3
              have hb3 : (yy.key == x.key) = false := beq_eq_false_iff_ne.2 HNe.out
              clear hbl hlt3
              go_wp2_with fail
              go_quiet (fail)
              have hod : OwnE wc.heap.size (wr.drewN nq) (.slice qo no dd) ol := HO.out
              obtain ⟨v7, W7, hrun, ho7, hb7⟩ := hod.push HBe.out.size yy (by have := HLn.out; show ol.length ≤ _; omega)
              rw [show (wr.drewN nq).heap.size = wr.heap.size from rfl] at hrun
              obtain ⟨qq7, dd7, rfl⟩ := ho7.shape
              obtain ⟨NN7, hNN⟩ : ∃ n, n = (ol ++ [yy]).length := ⟨_, rfl⟩
              have ho7' : OwnE wc.heap.size W7 (.slice qq7 NN7 dd7) (ol ++ [yy]) := by rw [hNN]; exact ho7
              rw [← hNN] at hrun
              have HR7 := hid hrun
              have HO7 := hid ho7'
              have HBe7 := hid ((HBd.out nq).trans hb7)
              clear hrun ho7 ho7' hNN hb7
              clear hod
              go_wp2_with (refine wpList_append_runs rfl _ _ 24 24 rfl _ _ _ _ rfl rfl HR7.out (Hid.out ?_))
              refine hid ?_
              go_wp2_with fail
              exact ⟨⟨i + 1, qq7, NN7, dd7, false, ol ++ [yy], by go_num, rfl, rfl, by omega, HS2.out, HO7.out, HBe7.out⟩, by simp [intOf]; omega⟩
        · have hge : (T.length : Int) ≤ (i : Int) := by omega
          have HSe := HSt.out
          rw [List.take_of_length_le (by omega)] at HSe
          have HMem : Hid (∀ y ∈ insX x T, y = x ∨ y ∈ R) := fun y hy => by
            rcases insX_mem y hy with h | h
            · exact .inl h
            · rw [HT.out] at h; exact .inr (List.mem_filter.1 h).1
          obtain ⟨r0, r1, r2⟩ := sp_facts HBi.out.r
          obtain ⟨f0, f1, f2⟩ := sp_frozen HBi.out.r
          obtain ⟨i0, i1, i2⟩ := sp_frozen HBi.out.s
          cases dn with
          | true =>
            have HIns : Hid (insX x T = ol) := by rw [Hid]; unfold insX; rw [HSe]; rfl
            rw [HIns.out] at HMem
            clear HSe
            go_wp2_with fail
            rw [HZero.out, HPut.out, HIns.out]
            have e := HO.out.shape
            obtain ⟨q', d', e⟩ := e
            injection e with _ e2 _
            subst e2
            obtain ⟨k1, k2, k3⟩ := put_end HBi.out HO.out HB6.out.size
            exact bodyPost_ret (v := .tuple #[sv qo ol.length dd room now, .int .i64 0]) (ret_stel rfl rfl rfl k1) rfl ⟨qo, dd, rfl, put_rde H.out HLx.out k3 k2 (by have := HB6.out.size; omega) HMem.out, k3⟩
          | false =>
            have HIns : Hid (insX x T = ol ++ [x]) := by rw [Hid]; unfold insX; rw [HSe]; rfl
            rw [HIns.out] at HMem
            clear HSe
            obtain ⟨v7, W7, hrun, ho7, hb7⟩ := HO.out.push HBe.out.size x (by have := HLn.out; show ol.length ≤ _; omega)
            obtain ⟨qq7, dd7, rfl⟩ := ho7.shape
            obtain ⟨NN7, hNN⟩ : ∃ n, n = (ol ++ [x]).length := ⟨_, rfl⟩
            have ho7' : OwnE wc.heap.size W7 (.slice qq7 NN7 dd7) (ol ++ [x]) := by rw [hNN]; exact ho7
            rw [← hNN] at hrun
            have HR7 := hid hrun
            have HO7 := hid ho7'
            have HBe7 := hid (HBe.out.trans hb7)
            clear hrun ho7 ho7' hNN hb7
            have HB7 := hid (HB6.out.go HBe7.out)
            clear s0 s1 s2 r0 r1 r2 f0 f1 f2 i0 i1 i2
            go_wp2_with (refine wpList_append_runs rfl _ _ 24 24 rfl _ _ _ _ rfl rfl HR7.out (Hid.out ?_))
            refine hid ?_
            obtain ⟨s0, s1, s2⟩ := sp_facts HB7.out.s
            obtain ⟨r0, r1, r2⟩ := sp_facts HB7.out.r
            obtain ⟨f0, f1, f2⟩ := sp_frozen HB7.out.r
            obtain ⟨i0, i1, i2⟩ := sp_frozen HB7.out.s
            go_wp2_with fail
            rw [HZero.out, HPut.out, HIns.out]
            have e := HO7.out.shape
            obtain ⟨q', d', e⟩ := e
            injection e with _ e2 _
            subst e2
            obtain ⟨k1, k2, k3⟩ := put_end HB7.out HO7.out HB6.out.size
            exact bodyPost_ret (v := .tuple #[sv qq7 (ol ++ [x]).length dd7 room now, .int .i64 0]) (ret_stel rfl rfl rfl k1) rfl ⟨qq7, dd7, rfl, put_rde H.out HLx.out k3 k2 (by have := HB6.out.size; omega) HMem.out, k3⟩
/-- ref Put -/
theorem qput_any (P : Nat → Prop) (pa : Option Addr) (c : Nat) (R : List E8) (room now : Int) (x : E8) (w : World) (h : Rde P w pa c R) (hx : Ok8 x) (hLx : Lies P w x) (hl : R.length ≤ 5000) (hok : ∀ y ∈ R, Ok8 y) : PutIs P pa c R room now x w (putR R room now x) (putE R room now x) := by
  by_cases hb : argBad x now
  · rw [putE_arg hb, putR_no (by rw [putE_arg hb]; decide)]
    by_cases h1 : 1024 < x.key.length
    · exact put_b1 P pa c R room now x w h hx.key h1
    · by_cases h2 : x.ends < 0
      · exact put_b2 P pa c R room now x w h hx.key h1 h2
      · by_cases h3 : 1099511627776 < x.ends
        · exact put_b3 P pa c R room now x w h hx.key h1 h3
        · obtain ⟨h4, h5⟩ : 0 < x.ends ∧ x.ends ≤ now := by
            rcases hb with k | k | k | k
            · exact absurd k h1
            · exact absurd k h2
            · exact absurd k h3
            · exact k
          exact put_b4 P pa c R room now x w h hx.key h1 h2 h3 h4 h5
  · have g1 : ¬ 1024 < x.key.length := fun k => hb (.inl k)
    have g2 : ¬ x.ends < 0 := fun k => hb (.inr (.inl k))
    have g3 : ¬ 1099511627776 < x.ends := fun k => hb (.inr (.inr (.inl k)))
    have g4 : x.ends = 0 ∨ (0 < x.ends ∧ now < x.ends) := by
      by_cases k : x.ends = 0
      · exact .inl k
      · refine .inr ⟨by omega, ?_⟩
        by_cases k2 : now < x.ends
        · exact k2
        · exact absurd (.inr (.inr (.inr ⟨by omega, by omega⟩))) hb
    cases hr : rightB x.m with
    | false =>
      rw [putE_form hb hr, putR_no (by rw [putE_form hb hr]; decide)]
      exact put_form P pa c R room now x w h hx hLx hl hok g1 g2 g3 g4 hr
    | true => exact put_rest P pa c R room now x w h hx hLx hl hok g1 g2 g3 g4 hr

end Go.Proofs.YtoecokidooaaoaaGreatDoor
