/- KModel. -/
import Derived.Test.YtppgifaegnmciaaDoorM25
import Derived.Test.YtppgifaegnmciaaDoorM23
namespace Go.Proofs.YtppgifaegnmciaaDoor

/-- a key, its value, and when it ends -/
abbrev EP := Nm × Vl × Int
noncomputable def tkE (x : EP) : Nat := 16 + x.1.length + (dumpS x.2.1).length
noncomputable def memL (L : List EP) : Nat := (L.map tkE).sum
def delL (k : Nm) (L : List EP) : List EP := L.filter fun x => !(x.1 == k)
def tickL (t : Int) (L : List EP) : List EP := L.filter fun x => x.2.2 == 0 || decide (t < x.2.2)
def getL (k : Nm) (L : List EP) : Option EP := L.find? fun x => x.1 == k
def slotL (n : Int) (L : List EP) : List Nm := (L.filter fun x => (slotOf x.1 : Int) == n).map (·.1)
def keysL (n most : Int) (L : List EP) : List Nm := (slotL n L).take most.toNat
def tickN (now t : Int) : Int := max now (min t 1099511627776)
def argBadP (x : EP) (now : Int) : Prop := 1024 < x.1.length ∨ x.2.2 < 0 ∨ 1099511627776 < x.2.2 ∨ (0 < x.2.2 ∧ x.2.2 ≤ now)
def stepL (x : EP) (s : List EP × Bool) (y : EP) : List EP × Bool := if s.2 = false ∧ x.1 < y.1 then (s.1 ++ [x] ++ [y], true) else (s.1 ++ [y], s.2)
def stL (x : EP) (l : List EP) : List EP × Bool := l.foldl (stepL x) ([], false)
def insL (x : EP) (l : List EP) : List EP := if (stL x l).2 = true then (stL x l).1 else (stL x l).1 ++ [x]
open Classical in
noncomputable def putEL (L : List EP) (room now : Int) (x : EP) : Int :=
  if argBadP x now then 1 else if rightB x.2.1 = false then 100
  else if ((getL x.1 L).isSome = false ∧ 4096 ≤ L.length) ∨ (room < ((memL (delL x.1 L) + tkE x : Nat) : Int) ∧ memL L < memL (delL x.1 L) + tkE x) then 110 else 0
noncomputable def putLL (L : List EP) (room now : Int) (x : EP) : List EP := if putEL L room now x = 0 then insL x (delL x.1 L) else L
theorem tk_map (x : E8) : tkE (pr8 x) = tk x := rfl
theorem mem_map8 (R : List E8) : memL (R.map pr8) = memR R := by
  unfold memL memR
  rw [List.map_map]
  rfl
theorem del_map (k : Nm) (R : List E8) : (delR k R).map pr8 = delL k (R.map pr8) := by
  unfold delR delL
  rw [List.filter_map]
  rfl
theorem tick_map (t : Int) (R : List E8) : (tickR t R).map pr8 = tickL t (R.map pr8) := by
  unfold tickR tickL
  rw [List.filter_map]
  rfl
theorem get_map (k : Nm) (R : List E8) : (getR k R).map pr8 = getL k (R.map pr8) := by
  unfold getR getL
  rw [List.find?_map]
  rfl
theorem slot_map (n : Int) (R : List E8) : slotK n R = slotL n (R.map pr8) := by
  unfold slotK slotL
  rw [List.filter_map, List.map_map]
  rfl
theorem keys_map (n most : Int) (R : List E8) : keysR n most R = keysL n most (R.map pr8) := by
  unfold keysR keysL
  rw [slot_map]
theorem st_map (x : E8) (R : List E8) : ((stI x R).1.map pr8, (stI x R).2) = stL (pr8 x) (R.map pr8) := by
  have key : ∀ (l : List E8) (s : List E8 × Bool), ((l.foldl (stepI x) s).1.map pr8, (l.foldl (stepI x) s).2) = (l.map pr8).foldl (stepL (pr8 x)) (s.1.map pr8, s.2) := by
    intro l
    induction l with
    | nil => intro s; rfl
    | cons z l ih =>
      intro s
      rw [List.foldl_cons, ih, List.map_cons, List.foldl_cons]
      congr 1
      unfold stepI stepL
      by_cases h : s.2 = false ∧ x.key < z.key
      · rw [if_pos h, if_pos (show s.2 = false ∧ (pr8 x).1 < (pr8 z).1 from h)]
        simp
      · rw [if_neg h, if_neg (show ¬ (s.2 = false ∧ (pr8 x).1 < (pr8 z).1) from h)]
        simp
  exact key R ([], false)
theorem ins_map (x : E8) (R : List E8) : (insX x R).map pr8 = insL (pr8 x) (R.map pr8) := by
  have h := st_map x R
  have h1 : (stL (pr8 x) (R.map pr8)).1 = (stI x R).1.map pr8 := by rw [← h]
  have h2 : (stL (pr8 x) (R.map pr8)).2 = (stI x R).2 := by rw [← h]
  unfold insX insL
  rw [h1, h2]
  split
  · rfl
  · simp
theorem putE_map (R : List E8) (room now : Int) (x : E8) : putE R room now x = putEL (R.map pr8) room now (pr8 x) := by
  unfold putE putEL
  have e1 : memL (delL (pr8 x).1 (R.map pr8)) = memR (delR x.key R) := by rw [← mem_map8, del_map]
  have e2 : (getL (pr8 x).1 (R.map pr8)).isSome = (getR x.key R).isSome := by rw [← get_map]; simp
  rw [e1, e2, mem_map8, List.length_map]
  rfl
theorem put_map (R : List E8) (room now : Int) (x : E8) : (putR R room now x).map pr8 = putLL (R.map pr8) room now (pr8 x) := by
  unfold putR putLL
  rw [putE_map]
  split
  · rw [ins_map, del_map]
  · rfl
/-- how many entries there are behind a Put -/
theorem delL_len (k : Nm) (L : List EP) : (delL k L).length ≤ L.length := List.length_filter_le _ _

end Go.Proofs.YtppgifaegnmciaaDoor
