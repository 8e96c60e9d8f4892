/- Calls in memory; few. -/
import Derived.Test.YtjcfbnhmljlkpaaLkSmall
namespace Go.Proofs.Ytjcfbnhmljlkpaa
open Go.RowKit

/-- a call -/
structure OpL where
  kind : Int
  frm : Int
  dst : Int
  x : Lt
/-- a call, and where its letter's rows lie -/
structure Om where
  o : OpL
  ap : Option Addr
  ac : Nat
  rp : Option Addr
  rc : Nat
def Om.cells (m : Om) : Array Value :=
  #[.int .i64 m.o.kind, .int .i64 m.o.frm, .int .i64 m.o.dst, .int .i64 m.o.x.kind, .int .i64 m.o.x.number, .int .i64 m.o.x.slot, .int .i64 m.o.x.ends, txt m.o.x.key, txt m.o.x.text, .slice m.ap m.o.x.args.length m.ac, .int .i64 m.o.x.reply.kind, .int .i64 m.o.x.reply.int, txt m.o.x.reply.text, .slice m.rp m.o.x.reply.list.length m.rc, .bool m.o.x.good, .int .i64 m.o.x.asking]
/-- ends that a machine's int can hold -/
def IE (f t : Int) : Prop := (Lit.int .i64 f).wf = true ∧ (Lit.int .i64 t).wf = true
/-- a row of calls that was handed in -/
structure GivenO (w : World) (p : Option Addr) (l : List Om) : Prop where
  at16 : l ≠ [] → ∃ b o, p = some ⟨b, o, none⟩ ∧ b < w.heap.size ∧ ∀ i (h : i < l.length) (j : Nat), j < 16 → w.cell? ⟨b, o + (i * 16 + j), none⟩ = l[i].cells[j]?
  lies : ∀ m ∈ l, LtR All w m.o.x m.ap m.rp
  ends : ∀ m ∈ l, IE m.o.frm m.o.dst
theorem GivenO.below {w w' : World} {p : Option Addr} {l : List Om} (h : GivenO w p l) (k : Below w.heap.size w w') : GivenO w' p l := by
  refine ⟨fun hne => ?_, fun m hm => (h.lies m hm).below k (Nat.le_refl _), h.ends⟩
  obtain ⟨b, o, rfl, hl, hc⟩ := h.at16 hne
  refine ⟨b, o, rfl, Nat.lt_of_lt_of_le hl k.size, fun i hi j hj => ?_⟩
  rw [World.cell?_of_block (w := w) (k.block b hl)]
  exact hc i hi j hj
theorem op_facts {W : World} {b k : Nat} {m : Om} (h : ∀ j, j < 16 → W.cell? ⟨b, k + j, none⟩ = m.cells[j]?) :
    W.cell? ⟨b, k, none⟩ = some (.int .i64 m.o.kind) ∧ W.cell? ⟨b, k + 1, none⟩ = some (.int .i64 m.o.frm) ∧ W.cell? ⟨b, k + 2, none⟩ = some (.int .i64 m.o.dst) ∧ W.cell? ⟨b, k + 3, none⟩ = some (.int .i64 m.o.x.kind) ∧ W.cell? ⟨b, k + 4, none⟩ = some (.int .i64 m.o.x.number) ∧ W.cell? ⟨b, k + 5, none⟩ = some (.int .i64 m.o.x.slot) ∧ W.cell? ⟨b, k + 6, none⟩ = some (.int .i64 m.o.x.ends) ∧ W.cell? ⟨b, k + 7, none⟩ = some (txt m.o.x.key) ∧ W.cell? ⟨b, k + 8, none⟩ = some (txt m.o.x.text) ∧ W.cell? ⟨b, k + 9, none⟩ = some (.slice m.ap m.o.x.args.length m.ac) ∧ W.cell? ⟨b, k + 10, none⟩ = some (.int .i64 m.o.x.reply.kind) ∧ W.cell? ⟨b, k + 11, none⟩ = some (.int .i64 m.o.x.reply.int) ∧ W.cell? ⟨b, k + 12, none⟩ = some (txt m.o.x.reply.text) ∧ W.cell? ⟨b, k + 13, none⟩ = some (.slice m.rp m.o.x.reply.list.length m.rc) ∧ W.cell? ⟨b, k + 14, none⟩ = some (.bool m.o.x.good) ∧ W.cell? ⟨b, k + 15, none⟩ = some (.int .i64 m.o.x.asking) :=
  ⟨h 0 (by decide), h 1 (by decide), h 2 (by decide), h 3 (by decide), h 4 (by decide), h 5 (by decide), h 6 (by decide), h 7 (by decide), h 8 (by decide), h 9 (by decide), h 10 (by decide), h 11 (by decide), h 12 (by decide), h 13 (by decide), h 14 (by decide), h 15 (by decide)⟩
theorem GivenO.facts {w : World} {p : Option Addr} {l : List Om} (h : GivenO w p l) (i : Nat) (hi : i < l.length) : ∃ b o, p = some ⟨b, o, none⟩ ∧ b < w.heap.size ∧ ∀ j, j < 16 → w.cell? ⟨b, o + i * 16 + j, none⟩ = l[i].cells[j]? := by
  obtain ⟨b, o, e, hl, hc⟩ := h.at16 (fun e => by rw [e] at hi; simp at hi)
  have g := fun j hj => hc i hi j hj
  simp only [← Nat.add_assoc] at g
  exact ⟨b, o, e, hl, g⟩
/-- so few, and none too great -/
def FewO (l : List Om) : Prop := l.length ≤ 200 ∧ ∀ m ∈ l, (Sm 9 m.o.x.reply ∧ m.o.x.args.length ≤ 100) ∧ IE m.o.frm m.o.dst
theorem few_take {l : List Om} {i : Nat} (hi : i < l.length) (h : ∀ m ∈ l.take i, Sm 9 m.o.x.reply ∧ m.o.x.args.length ≤ 100) (h1 : Sm 9 l[i].o.x.reply ∧ l[i].o.x.args.length ≤ 100) : ∀ m ∈ l.take (i + 1), Sm 9 m.o.x.reply ∧ m.o.x.args.length ≤ 100 := by
  rw [List.take_succ_eq_append_getElem hi]
  intro m hm
  rcases List.mem_append.1 hm with hm | hm
  · exact h m hm
  · rw [List.mem_singleton.1 hm]; exact h1
set_option maxHeartbeats 4000000 in
set_option maxRecDepth 100000 in
/-- few -/
theorem few_any (p : Option Addr) (l : List Om) (c : Nat) (w : World) (h : GivenO w p l) :
    Calls Try.prog 9 #[.slice p l.length c] w fun e w' => ∃ b : Bool, e = .returned (.bool b) ∧ Hid ((b = true → FewO l) ∧ Below w.heap.size w w') := by
  have H := hid h
  obtain ⟨n, hn⟩ : ∃ n, l.length = n := ⟨_, rfl⟩
  have HN := hid hn
  rw [hn]
  clear h hn
  by_cases h200 : n ≤ 200
  · have hz : ¬ (200 : Int) < (n : Int) := by omega
    go_enter Try.func9, Try.ntmps9
    go_wp2_with fail
    go_loopw [10] (fun v10 W => ∃ i : Nat, v10 = .int .i64 (i : Int) ∧ i ≤ n ∧ Hid (∀ m ∈ l.take i, Sm 9 m.o.x.reply ∧ m.o.x.args.length ≤ 100) ∧ Hid (Below w.heap.size w W)) (fun v10 _ => n - (intOf v10).toNat)
    case atStart => exact ⟨0, rfl, Nat.zero_le _, (fun m hm => by simp at hm), Below.refl _ _⟩
    case round =>
      obtain ⟨i, rfl, hi, HD, HB⟩ := hrel
      by_cases hlt : i < n
      · have hiz : (i : Int) < (n : Int) := by omega
        have hiR : i < l.length := by have := HN.out; omega
        obtain ⟨g, o, rfl, hgl, hc⟩ := (H.out.below HB.out).facts i hiR
        obtain ⟨x0, x1, x2, x3, x4, x5, x6, x7, x8, x9, x10, x11, x12, x13, x14, x15⟩ := op_facts hc
        have HL := hid ((H.out.below HB.out).lies l[i] (List.getElem_mem hiR))
        have HT := hid (fun h1 => few_take hiR HD.out h1)
        generalize l[i] = m at *
        clear hc HD
        obtain ⟨d, hr⟩ := HL.out.rp m.rc
        have HRp := hid hr
        clear hr HL
        go_upto_region 6 with fail
        generalize hw1 : wr.alloc _ = w1
        have hba : Below wr.heap.size wr w1 := by rw [← hw1]; exact below_alloc wr _
        have HB1 := hid (HB.out.trans (hba.mono HB.out.size))
        have HSm := hid (small_any _ m.o.x.reply d w1 (HRp.out.below hba (Nat.le_refl _)))
        have hblk : w1.heap[wr.heap.size]? = some (.cells m.cells 35 (0, 0)) := by rw [← hw1]; exact heap_alloc_new wr _
        have y10 : w1.cell? ⟨wr.heap.size, 10, none⟩ = some (.int .i64 m.o.x.reply.kind) := cell_of_row w1 _ 10 _ _ _ hblk
        have y11 : w1.cell? ⟨wr.heap.size, 11, none⟩ = some (.int .i64 m.o.x.reply.int) := cell_of_row w1 _ 11 _ _ _ hblk
        have y12 : w1.cell? ⟨wr.heap.size, 12, none⟩ = some (txt m.o.x.reply.text) := cell_of_row w1 _ 12 _ _ _ hblk
        have y13 : w1.cell? ⟨wr.heap.size, 13, none⟩ = some (.slice m.rp m.o.x.reply.list.length m.rc) := cell_of_row w1 _ 13 _ _ _ hblk
        have hl1 : wr.heap.size < w1.heap.size := (Array.getElem?_eq_some_iff.1 hblk).1
        have Hblk := hid hblk
        clear hw1 hba hblk x0 x1 x2 x3 x4 x5 x6 x7 x8 x9 x10 x11 x12 x13 x14 x15 HRp
        go_wp2_with fail
        refine HSm.out.mono ?_; rintro e w2 ⟨b, rfl, hh⟩
        have HB2 := hid (HB1.out.trans (hh.out.2.mono HB1.out.size))
        have HQ := hid hh.out.1
        have y9 : w2.cell? ⟨wr.heap.size, 9, none⟩ = some (.slice m.ap m.o.x.args.length m.ac) := cell_of_row w2 _ 9 _ _ _ ((hh.out.2.block _ hl1).trans Hblk.out)
        clear hh HSm Hblk y10 y11 y12 y13
        cases b
        · go_wp2_with fail
          go_ret
          exact ⟨false, rfl, by simp, HB2.out⟩
        · by_cases h100 : m.o.x.args.length ≤ 100
          · have h100z : ¬ (100 : Int) < (m.o.x.args.length : Int) := by omega
            go_wp2_with fail
            exact ⟨⟨i + 1, by go_num, by omega, HT.out ⟨HQ.out trivial, h100⟩, HB2.out⟩, by simp [intOf]; omega⟩
          · have h100z : (100 : Int) < (m.o.x.args.length : Int) := by omega
            go_wp2_with fail
            go_ret
            exact ⟨false, rfl, by simp, HB2.out⟩
      · have et : l.take i = l := List.take_of_length_le (by have := HN.out; omega)
        rw [et] at HD
        go_wp2_with fail
        go_ret
        exact ⟨true, rfl, fun _ => ⟨by have := HN.out; omega, fun m hm => ⟨HD.out m hm, H.out.ends m hm⟩⟩, HB.out⟩
  · have hz : (200 : Int) < (n : Int) := by omega
    go_enter Try.func9, Try.ntmps9
    go_wp2_with fail
    go_ret
    first | exact ⟨false, rfl, by simp, Below.refl _ _⟩ | exact .inl ⟨rfl, Below.refl _ _⟩

end Go.Proofs.Ytjcfbnhmljlkpaa
