/- How replies are written and read: plain mathematics, nothing of the program. -/
import Derived.Test.YtngkbacnajgmcaaDoorNums
namespace Go.Proofs.YtngkbacnajgmcaaDoor

/-- a line -/
def ln (c : UInt8) (t : List UInt8) : List UInt8 := [c] ++ t ++ [13, 10]
/-- a text of a line -/
abbrev Pl (t : List UInt8) : Prop := t.length ≤ 509 ∧ 13 ∉ t ∧ 10 ∉ t
/-- has a reply, but for what its list holds, a writing? -/
def right (room : Nat) (r : Rep) : Bool :=
  if r.kind = 1 ∨ r.kind = 2 then decide (Pl r.text ∧ r.int = 0 ∧ r.list.length = 0)
  else if r.kind = 4 then decide (r.text.length ≤ 65536 ∧ r.int = 0 ∧ r.list.length = 0)
  else if r.kind = 5 then decide (r.int = 0 ∧ r.text = [] ∧ r.list.length = 0)
  else if r.kind = 3 then decide (r.text = [] ∧ r.list.length = 0)
  else if r.kind = 6 then decide (r.list.length ≤ 1024 ∧ 0 < room ∧ r.int = 0 ∧ r.text = [])
  else false
/-- the writing of a reply that has no list -/
def body (r : Rep) : List UInt8 :=
  if r.kind = 1 then ln 43 r.text
  else if r.kind = 2 then ln 45 r.text
  else if r.kind = 3 then ln 58 (Lib.itoa r.int)
  else if r.kind = 5 then ln 36 [45, 49]
  else ln 36 (Lib.itoa (r.text.length : Nat)) ++ r.text ++ [13, 10]
def encAll (f : Rep → Option (List UInt8)) : List Rep → Option (List UInt8)
  | [] => some []
  | r :: l => (f r).bind fun x => (encAll f l).map (x ++ ·)
/-- the writing of a reply within which so many lists may stand -/
def enc : Nat → Rep → Option (List UInt8)
  | 0, r => if right 0 r then some (body r) else none
  | k + 1, r => if right (k + 1) r then (if r.kind = 6 then (encAll (enc k) r.list).map (ln 42 (Lib.itoa (r.list.length : Nat)) ++ ·) else some (body r)) else none
/-- more bytes than a writing has -/
def cost : Nat → Rep → Nat
  | 0, r => r.text.length + 100
  | k + 1, r => r.text.length + 100 + (r.list.map (cost k)).sum

inductive Res where
  | got (r : Rep) (rest : List UInt8)
  | bad (e : Int)
inductive ResL where
  | got (l : List Rep) (rest : List UInt8)
  | bad (e : Int)
inductive Cut where
  | ok (line rest : List UInt8)
  | bad (e : Int)
/-- may a writing begin so? -/
def may (c : UInt8) (room : Nat) : Bool := c == 43 || c == 45 || c == 58 || c == 36 || (c == 42 && room != 0)
def cutLn (s : List UInt8) (room : Nat) : Cut :=
  match s with
  | [] => .bad 40
  | c :: _ =>
    if may c room then
      if Lib.indexByte (s.take 512) 10 < 0 then (if 512 ≤ s.length then .bad 41 else .bad 40)
      else if Lib.hasSuffix (s.take ((Lib.indexByte (s.take 512) 10).toNat + 1)) [13, 10] then .ok (s.take ((Lib.indexByte (s.take 512) 10).toNat - 1)) (s.drop ((Lib.indexByte (s.take 512) 10).toNat + 1)) else .bad 41
    else .bad 41
/-- the number that a text is -/
def num (l : List UInt8) (least most : Int) : Option Int :=
  match Lib.atoiAll l with
  | .ok v => if Lib.itoa v = l ∧ least ≤ v ∧ v ≤ most then some v else none
  | _ => none
def rdBulk (text s : List UInt8) : Res :=
  if text = [45, 49] then .got (.mk 5 0 [] []) s
  else match num text 0 65536 with
    | none => .bad 41
    | some n => if s.length < n.toNat then .bad 40
      else if ((s.drop n.toNat).take 2).isPrefixOf [13, 10] then (if (s.drop n.toNat).take 2 = [13, 10] then .got (.mk 4 0 (s.take n.toNat) []) (s.drop (n.toNat + 2)) else .bad 40)
      else .bad 41
def rdAll (f : List UInt8 → Res) : Nat → List UInt8 → ResL
  | 0, s => .got [] s
  | n + 1, s => match f s with
    | .bad e => .bad e
    | .got r rest => match rdAll f n rest with
      | .bad e => .bad e
      | .got l rest' => .got (r :: l) rest'
def rdList (sub : Nat → List UInt8 → ResL) (text s : List UInt8) : ResL :=
  match num text 0 1024 with
  | none => .bad 41
  | some n => sub n.toNat s
def rdKind (sub : Nat → List UInt8 → ResL) (c : UInt8) (text rest : List UInt8) : Res :=
  if c = 43 then (if Pl text then .got (.mk 1 0 text []) rest else .bad 41)
  else if c = 45 then (if Pl text then .got (.mk 2 0 text []) rest else .bad 41)
  else if c = 58 then (match num text (-9223372036854775808) 9223372036854775807 with | some n => .got (.mk 3 n [] []) rest | none => .bad 41)
  else if c = 36 then rdBulk text rest
  else match rdList sub text rest with
    | .got l rest' => .got (.mk 6 0 [] l) rest'
    | .bad e => .bad e
def rdLine (sub : Nat → List UInt8 → ResL) (room : Nat) (s : List UInt8) : Res :=
  match cutLn s room with
  | .bad e => .bad e
  | .ok [] _ => .bad 41
  | .ok (c :: text) rest => rdKind sub c text rest
/-- the reply at a text's front -/
def rd : Nat → List UInt8 → Res
  | 0, s => rdLine (fun _ _ => .bad 41) 0 s
  | k + 1, s => rdLine (rdAll (rd k)) (k + 1) s

theorem may_not {c : UInt8} {room : Nat} (h : may c room = true) : c ≠ 13 ∧ c ≠ 10 := by
  constructor <;> (rintro rfl; revert h; simp [may])
theorem cutLn_ok {s line rest : List UInt8} {room : Nat} (h : cutLn s room = .ok line rest) : ∃ c text, line = c :: text ∧ may c room = true ∧ line.length ≤ s.length ∧ rest.length ≤ s.length ∧ line.length ≤ 512 := by
  unfold cutLn at h
  split at h
  · cases h
  · rename_i c t
    split at h
    · rename_i hm
      split at h
      · split at h <;> cases h
      · split at h
        · rename_i hx hs
          injection h with h1 h2
          obtain ⟨p, r, e, hp, hi⟩ : ∃ p r, (c :: t).take 512 = p ++ 10 :: r ∧ 10 ∉ p ∧ Lib.indexByte ((c :: t).take 512) 10 = p.length := by
            rcases index_cases 10 ((c :: t).take 512) with ⟨h, _⟩ | h
            · omega
            · exact h
          rw [hi] at h1 h2 hs
          have hn := may_not hm
          have hsp : Lib.hasSuffix ((c :: t).take (p.length + 1)) [13, 10] = true := by simpa using hs
          have htk : (c :: t).take (p.length + 1) = p ++ [10] := by
            have hlen : p.length + 1 ≤ 512 := by
              have := congrArg List.length e
              simp at this; omega
            have : ((c :: t).take 512).take (p.length + 1) = p ++ [10] := by rw [e]; simp [List.take_append]; exact List.take_of_length_le (by omega)
            rwa [List.take_take, Nat.min_eq_left hlen] at this
          rw [htk] at hsp
          cases p with
          | nil =>
            simp at e
            exact absurd e.1 hn.2
          | cons x p =>
            have hx : x = c := by simp at e; exact e.1.symm
            subst hx
            cases p with
            | nil =>
              simp [Lib.hasSuffix, List.isSuffixOf] at hsp
              exact absurd hsp.symm hn.1
            | cons y p =>
              have hl512 : (x :: y :: p).length ≤ 512 := by
                have := congrArg List.length e
                simp at this ⊢
                omega
              refine ⟨x, t.take p.length.succ.pred, ?_, hm, ?_, ?_, ?_⟩
              · rw [← h1, show (((x :: y :: p).length : Nat) : Int).toNat - 1 = p.length + 1 from by simp only [List.length_cons, Int.toNat_natCast]; omega]; simp
              · rw [← h1]; simp; omega
              · rw [← h2]; simp; omega
              · rw [← h1]; simp at hl512 ⊢; omega
        · cases h
    · cases h

end Go.Proofs.YtngkbacnajgmcaaDoor
