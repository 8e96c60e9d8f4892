/- What the dict's methods do (values: texts), in whatever blocks it lies; the law of texts. -/
import Derived.Test.YtphegggekcjenaaDoorAlive
namespace Go.Proofs.YtphegggekcjenaaDoor
open Go.RowKit

structure MethS (V : World → Prop) (B : Nat) (Ds : World → Nat → (Nat → Prop) → DM Nm → Prop) : Prop where
  turn : ∀ {w w' : World} {b : Nat} {O : Nat → Prop} {D : DM Nm}, Ds w b O D → (∀ k, k < B ∨ O k → w'.heap[k]? = w.heap[k]?) → w.heap.size ≤ w'.heap.size → Ds w' b O D
  base : ∀ {w : World} {b : Nat} {O : Nat → Prop} {D : DM Nm}, Ds w b O D → B ≤ w.heap.size
  lt : ∀ {w : World} {b : Nat} {O : Nat → Prop} {D : DM Nm}, Ds w b O D → ∀ k, O k → k < w.heap.size
  srt : ∀ {w : World} {b : Nat} {O : Nat → Prop} {D : DM Nm}, Ds w b O D → Srt D.L
  new : ∀ w, V w → B ≤ w.heap.size → Calls Tryd.prog 25 #[] w fun e w' => ∃ b, e = .returned (ptr b) ∧ Hid (∃ O, Ds w' b O newD ∧ (∀ k, O k → w.heap.size ≤ k) ∧ Below w.heap.size w w')
  put : ∀ (b : Nat) (O : Nat → Prop) (D : DM Nm) (n v : Nm) (w : World), Ds w b O D → Small 100000 D → n.length ≤ 140737488351232 → Calls Tryd.prog 26 #[ptr b, txt n, txt v] w fun e w' => e = .returned (.bool (hasL n D.L)) ∧ Hid (∃ O', Ds w' b O' (putD D n v) ∧ Grew w O O' ∧ Keep (Off O) w w')
  get : ∀ (b : Nat) (O : Nat → Prop) (D : DM Nm) (n : Nm) (w : World), Ds w b O D → Small 100000 D → n.length ≤ 140737488351232 → Calls Tryd.prog 27 #[ptr b, txt n] w fun e w' => e = .returned (.tuple #[txt ((getL n D.L).getD []), .bool (getL n D.L).isSome]) ∧ Hid (Below w.heap.size w w')
  length : ∀ (b : Nat) (O : Nat → Prop) (D : DM Nm) (w : World), Ds w b O D → Calls Tryd.prog 29 #[ptr b] w fun e w' => e = .returned (.int .i64 D.L.length) ∧ Hid (Below w.heap.size w w')
  names : ∀ (b : Nat) (O : Nat → Prop) (D : DM Nm) (w : World), Ds w b O D → Small 100000 D → Calls Tryd.prog 28 #[ptr b] w fun e w' => ∃ q c, e = .returned (.slice q D.L.length c) ∧ Hid (Tl (fun k => w.heap.size ≤ k) w' (.slice q D.L.length c) (namesL D.L) ∧ Below w.heap.size w w')
theorem MethS.below {V : World → Prop} {B : Nat} {Ds : World → Nat → (Nat → Prop) → DM Nm → Prop} (M : MethS V B Ds) {w w' : World} {b : Nat} {O : Nat → Prop} {D : DM Nm} (h : Ds w b O D) (k : Below w.heap.size w w') : Ds w' b O D := M.turn h (fun i hi => k.block i (by rcases hi with hi | hi; have := M.base h; omega; exact M.lt h i hi)) k.size
theorem bcat (a b : List UInt8) : (⟨a.toArray⟩ : ByteArray) ++ (⟨b.toArray⟩ : ByteArray) = ⟨(a ++ b).toArray⟩ := by
  apply ByteArray.ext
  rw [ByteArray.data_append]
  simp
/-- where texts lie -/
def Strs (w : World) (p : Option Addr) (l : Row) : Prop := l ≠ [] → ∃ b o, p = some ⟨b, o, none⟩ ∧ ∀ i (h : i < l.length), w.cell? ⟨b, o + i, none⟩ = some (txt l[i])

end Go.Proofs.YtphegggekcjenaaDoor
