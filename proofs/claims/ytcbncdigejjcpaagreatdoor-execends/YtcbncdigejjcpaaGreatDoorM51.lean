/- YH0, YH. -/
import Derived.Test.YtcbncdigejjcpaaGreatDoorM50
namespace Go.Proofs.YtcbncdigejjcpaaGreatDoor.Ex
open Re (Rep)
open Go.RowKit

/-- the blocks of the caller's own stay behind a put -/
theorem post_own {B : Nat} {P : Nat → Prop} {w W w' : World} {b : Nat} {O A : Nat → Prop} {L M : List EP} {room now : Int} {r : Rep} {v : Value} (h : Sp B w b O A L room now) (hp : Post B P W b O A room now M r w' v) (f : Nat) (hf : w.heap.size ≤ f) (hf1 : f < W.heap.size) : w'.heap[f]? = W.heap[f]? := by
  obtain ⟨O', A', _, h2, _⟩ := hp.ex
  exact own_block' h h2 f hf hf1
theorem post_size {B : Nat} {P : Nat → Prop} {W w' : World} {b : Nat} {O A : Nat → Prop} {M : List EP} {room now : Int} {r : Rep} {v : Value} (hp : Post B P W b O A room now M r w' v) : W.heap.size ≤ w'.heap.size := by
  obtain ⟨O', A', _, h2, _⟩ := hp.ex
  exact h2.keep.size
set_option maxHeartbeats 4000000 in
set_option maxRecDepth 100000 in
theorem set_nil {B : Nat} {w : World} {b : Nat} {O A : Nat → Prop} {L : List EP} {room now : Int} (h : Sp B w b O A L room now) (nm : Nm) (pa : Option Addr) (na ca : Nat) (p : Option Addr) (c : Nat) :
    Calls Tryz.prog 122 #[cv b nm pa na ca, .slice p 0 c] w fun e w' => ∃ q d, e = .returned (rval okR q d) ∧ Hid (Post B (fun _ => False) w b O A room now L okR w' (rval okR q d)) := by
  have HA := hid (al_two w (cob b nm pa na ca) rob0)
  have HS := hid h
  have HD : Hid (Calls Tryz.prog 98 #[] ((w.alloc (cob b nm pa na ca)).alloc rob0) fun e w' => e = .returned (rval okR none 0) ∧ Hid (Below ((w.alloc (cob b nm pa na ca)).alloc rob0).heap.size ((w.alloc (cob b nm pa na ca)).alloc rob0) w')) := done_any _
  obtain ⟨R, hR⟩ : ∃ R, R = okR := ⟨_, rfl⟩
  have HF : Hid (R.list = [] ∧ Re.Fit R) := by rw [hR]; exact fit_sim (s := tOk) (by decide)
  rw [← hR] at HD ⊢
  clear h hR
  go_enter Tryz.func122, Tryz.ntmps122
  go_wp2_with fail
  refine HD.out.mono ?_; rintro e w1 ⟨rfl, hb⟩
  have hs0 := HA.out.2.2.2
  have HB1 := hid (HA.out.1.trans (hb.out.mono HA.out.1.size))
  have HZ1 := hid ((hb.out.block (w.heap.size + 1) (by omega)).trans HA.out.2.2.1)
  clear hb
  go_wp2_with (refine wpList_store_row rfl 32 _ _ rfl (w.heap.size + 1) #[.int .i64 R.kind, .int .i64 R.int, txt R.text, .slice none R.list.length 0] rfl rfl 32 _ HZ1.out (Re.infoRep _ _ _ _) rfl (one_r _ _ _) ?_)
  refine bodyPost_ret (v := rval R none 0) ?_ rfl ?_
  · exact Re.ret_rep1 rfl rfl (setRow_heap w1 _ _ _ _ _ HZ1.out)
  · exact ⟨none, 0, rfl, Post.quiet HS.out (Re.below_setRow HB1.out (by omega) _) (rp_flat HF.out.1 HF.out.2) (fun _ h => h.elim)⟩

end Go.Proofs.YtcbncdigejjcpaaGreatDoor.Ex

namespace Go.Proofs.YtcbncdigejjcpaaGreatDoor.Ex
open Re (Rep)
open Go.RowKit

theorem chain_same (w : World) (r : Rep) (q : Option Addr) (d : Nat) : (w.alloc (rob r q d)).heap[w.heap.size]? = some (rob r q d) := heap_alloc_new w _
/-- what is there behind a put: its answer in a block of the caller's -/
def Rel9 (B : Nat) (w : World) (b : Nat) (O A : Nat → Prop) (room now : Int) (M : List EP) (R : Rep) (nm : Nm) (pa : Option Addr) (na ca : Nat) (c9 : Value) (wx : World) : Prop := ∃ (rb : Nat) (q : Option Addr) (d : Nat), c9 = pt rb ∧ w.heap.size + 2 ≤ rb ∧ rb < wx.heap.size ∧ Hid (wx.heap[rb]? = some (rob R q d)) ∧ Hid (wx.heap[w.heap.size + 1]? = some rob0) ∧ Hid (wx.heap[w.heap.size]? = some (cob b nm pa na ca)) ∧ Hid (∃ O5 A5, Sp B wx b O5 A5 M room now ∧ Stp w wx O O5 A A5 ∧ ¬ A5 rb ∧ ¬ A5 (w.heap.size + 1) ∧ ¬ A5 w.heap.size ∧ Re.Rp (fun _ => False) wx 2 (rval R q d) R)
theorem fin6 {B : Nat} {w w6 w7 : World} {b : Nat} {O A O5 A5 : Nat → Prop} {L M : List EP} {room now : Int} (h : Sp B w b O A L room now) (h1 : Sp B w6 b O5 A5 M room now) (h2 : Stp w w6 O O5 A A5) {f : Nat} (hf : ¬ A5 f) (hfw : w.heap.size ≤ f) (k : Keep (fun k => k ≠ f) w6 w7) : Sp B w7 b O5 A5 M room now ∧ Stp w w7 O O5 A A5 := by
  refine ⟨h1.turn (k.mono (fun j hj e => ?_)), ⟨⟨k.os.trans h2.keep.os, k.tape.trans h2.keep.tape, k.output.trans h2.keep.output, Nat.le_trans h2.keep.size k.size, fun j hj ho => (k.block j (Nat.lt_of_lt_of_le hj h2.keep.size) (by show j ≠ f; omega)).trans (h2.keep.block j hj ho)⟩, h2.o, h2.a⟩⟩
  subst e
  rcases hj with hj | hj
  · have := h.base; omega
  · exact hf hj
theorem fin5 {B : Nat} {w w6 w7 : World} {b : Nat} {O A O5 A5 : Nat → Prop} {L M : List EP} {room now : Int} {R : Rep} {v : Value} (h : Sp B w b O A L room now) (h1 : Sp B w6 b O5 A5 M room now) (h2 : Stp w w6 O O5 A A5) {f : Nat} (hf : ¬ A5 f) (hfw : w.heap.size ≤ f) (k : Keep (fun k => k ≠ f) w6 w7) (hr : Re.Rp (fun _ => False) w7 2 v R) : Post B (fun _ => False) w b O A room now M R w7 v :=
  ⟨O5, A5, (fin6 h h1 h2 hf hfw k).1, (fin6 h h1 h2 hf hfw k).2, hr.turn (fun _ h _ => h.elim) (Nat.le_refl _)⟩
theorem own5 {B : Nat} {W w' : World} {b : Nat} {O5 A5 : Nat → Prop} {M M' : List EP} {room now : Int} {R : Rep} {v : Value} {f : Nat} (hf : ¬ A5 f) (hp : Post B (fun _ => False) W b O5 A5 room now M R w' v) (h : Sp B W b O5 A5 M' room now) (hl : f < W.heap.size) : w'.heap[f]? = W.heap[f]? := by
  obtain ⟨O', A', _, h2, _⟩ := hp.ex
  exact h2.keep.block f hl (fun ho => hf (h.sub f ho))
theorem sput_old {B : Nat} {w w3 w4 w5 : World} {b : Nat} {O A : Nat → Prop} {L M : List EP} {room now : Int} {R : Rep} {v : Value} (h : Sp B w b O A L room now) (hb : Below w.heap.size w w3) (hp : Post B (fun _ => False) w3 b O A room now M R w4 v) (rb : Nat) (hr : w.heap.size + 2 ≤ rb) (hr3 : rb < w3.heap.size) (hk : Keep (fun k => k ≠ rb) w4 w5) : ∃ O5 A5, Sp B w5 b O5 A5 M room now ∧ Stp w w5 O O5 A A5 ∧ ¬ A5 rb ∧ ¬ A5 (w.heap.size + 1) ∧ ¬ A5 w.heap.size ∧ Re.Rp (fun _ => False) w5 2 v R := by
  obtain ⟨O5, A5, h1, h2, h3⟩ := hp.ex
  have hA : ∀ f, w.heap.size ≤ f → f < w3.heap.size → ¬ A5 f := fun f hf hf3 ha => by
    rcases h2.a f ha with h' | h'
    · have := (h.lt f h').2; omega
    · omega
  have hst := (Stp.below hb O A).trans h2
  refine ⟨O5, A5, h1.turn (hk.mono (fun j hj e => ?_)), ⟨⟨hk.os.trans hst.keep.os, hk.tape.trans hst.keep.tape, hk.output.trans hst.keep.output, Nat.le_trans hst.keep.size hk.size, fun j hj ho => (hk.block j (Nat.lt_of_lt_of_le hj hst.keep.size) (by show j ≠ rb; omega)).trans (hst.keep.block j hj ho)⟩, hst.o, hst.a⟩, hA _ (by omega) (by omega), hA _ (by omega) (by omega), hA _ (by omega) (by omega), h3.turn (fun j hj _ => hj.1.elim) (Nat.le_refl _)⟩
  subst e
  rcases hj with hj | hj
  · have := h.base; omega
  · exact hA j (by omega) hr3 hj
theorem sput_new {B : Nat} {w w3 w4 w5 : World} {b : Nat} {O A : Nat → Prop} {L M : List EP} {room now : Int} {R : Rep} {v : Value} (h : Sp B w b O A L room now) (hb : Below w.heap.size w w3) (hp : Post B (fun _ => False) w3 b O A room now M R w4 v) (hs : w.heap.size + 2 ≤ w3.heap.size) (hk : Below w4.heap.size w4 w5) : ∃ O5 A5, Sp B w5 b O5 A5 M room now ∧ Stp w w5 O O5 A A5 ∧ ¬ A5 w4.heap.size ∧ ¬ A5 (w.heap.size + 1) ∧ ¬ A5 w.heap.size ∧ Re.Rp (fun _ => False) w5 2 v R := by
  obtain ⟨O5, A5, h1, h2, h3⟩ := hp.ex
  have hA : ∀ f, w.heap.size ≤ f → f < w3.heap.size → ¬ A5 f := fun f hf hf3 ha => by
    rcases h2.a f ha with h' | h'
    · have := (h.lt f h').2; omega
    · omega
  exact ⟨O5, A5, h1.below hk, ((Stp.below hb O A).trans h2).trans (Stp.below hk O5 A5), fun ha => by have := (h1.lt _ ha).2; omega, hA _ (by omega) (by omega), hA _ (by omega) (by omega), h3.turn (fun j hj _ => hj.1.elim) (Nat.le_refl _)⟩
theorem rel_old {B : Nat} {w w3 w4 : World} {b : Nat} {O A : Nat → Prop} {L M : List EP} {room now : Int} {R : Rep} {nm : Nm} {pa : Option Addr} {na ca : Nat} {q : Option Addr} {d : Nat} {rb : Nat} {v0 v1 v2 v3 : Value} (h : Sp B w b O A L room now) (hb : Below w.heap.size w w3) (hs : w.heap.size + 2 ≤ w3.heap.size) (hz : w3.heap[w.heap.size + 1]? = some rob0) (hc : w3.heap[w.heap.size]? = some (cob b nm pa na ca)) (hp : Post B (fun _ => False) w3 b O A room now M R w4 (rval R q d)) (hr : w.heap.size + 2 ≤ rb) (hr3 : rb < w3.heap.size) (hre : w4.heap[rb]? = some (.cells #[v0, v1, v2, v3] 32 (0, 0))) :
    Rel9 B w b O A room now M R nm pa na ca (pt rb) (set4 w4 rb (.int .i64 R.kind) (.int .i64 R.int) (txt R.text) (.slice q R.list.length d)) := by
  have hk := set4_keep w4 rb (.int .i64 R.kind) (.int .i64 R.int) (txt R.text) (.slice q R.list.length d)
  have h4 := post_size hp
  exact ⟨rb, q, d, rfl, hr, Nat.lt_of_lt_of_le (by omega) hk.size, set4_same _ _ _ _ hre, (hk.block _ (by omega) (by show w.heap.size + 1 ≠ _; omega)).trans ((post_own h hp (w.heap.size + 1) (by omega) (by omega)).trans hz), (hk.block _ (by omega) (by show w.heap.size ≠ _; omega)).trans ((post_own h hp w.heap.size (by omega) (by omega)).trans hc), sput_old h hb hp rb hr hr3 hk⟩
theorem rel_new {B : Nat} {w w3 w4 : World} {b : Nat} {O A : Nat → Prop} {L M : List EP} {room now : Int} {R : Rep} {nm : Nm} {pa : Option Addr} {na ca : Nat} {q : Option Addr} {d : Nat} (h : Sp B w b O A L room now) (hb : Below w.heap.size w w3) (hs : w.heap.size + 2 ≤ w3.heap.size) (hz : w3.heap[w.heap.size + 1]? = some rob0) (hc : w3.heap[w.heap.size]? = some (cob b nm pa na ca)) (hp : Post B (fun _ => False) w3 b O A room now M R w4 (rval R q d)) :
    Rel9 B w b O A room now M R nm pa na ca (pt w4.heap.size) (w4.alloc (rob R q d)) := by
  have hba := below_alloc w4 (rob R q d)
  have h4 := post_size hp
  exact ⟨w4.heap.size, q, d, rfl, by omega, by simp, chain_same w4 R q d, (hba.block _ (by omega)).trans ((post_own h hp (w.heap.size + 1) (by omega) (by omega)).trans hz), (hba.block _ (by omega)).trans ((post_own h hp w.heap.size (by omega) (by omega)).trans hc), sput_new h hb hp (by omega) hba⟩
set_option maxHeartbeats 16000000 in
set_option maxRecDepth 100000 in
theorem set_two {B : Nat} {w : World} {b : Nat} {O A : Nat → Prop} {L : List EP} {room now : Int} (h : Sp B w b O A L room now) (nm : Nm) (pa : Option Addr) (na ca : Nat) (g o c : Nat) (k x : Nm) (h0 : w.cell? ⟨g, o, none⟩ = some (txt k)) (h1 : w.cell? ⟨g, o + 1, none⟩ = some (txt x)) (hcap : 2 ≤ c) (hl0 : k.length ≤ 140737488351232) (hl1 : x.length ≤ 140737488351232) :
    Calls Tryz.prog 122 #[cv b nm pa na ca, .slice (some ⟨g, o, none⟩) 2 c] w fun e w' => ∃ q d, e = .returned (rval (putR L room now (k, plainV x, 0) okR) q d) ∧ Hid (Post B (fun _ => False) w b O A room now (putLL L room now (k, plainV x, 0)) (putR L room now (k, plainV x, 0) okR) w' (rval (putR L room now (k, plainV x, 0) okR) q d)) := by
  have HA := hid (al_two w (cob b nm pa na ca) rob0)
  have hgl : g < w.heap.size := block_lt_of_cell h0
  have HS := hid h
  have k0 := cell_turn h0 (HA.out.1.block g hgl)
  have k1 := cell_turn h1 (HA.out.1.block g hgl)
  have k0d : ((w.alloc (cob b nm pa na ca)).alloc rob0).drew.cell? ⟨g, o, none⟩ = some (txt k) := k0
  have k1d : ((w.alloc (cob b nm pa na ca)).alloc rob0).drew.cell? ⟨g, o + 1, none⟩ = some (txt x) := k1
  obtain ⟨M, hM⟩ : ∃ M, M = putLL L room now (k, plainV x, 0) := ⟨_, rfl⟩
  obtain ⟨R, hR⟩ : ∃ R, R = putR L room now (k, plainV x, 0) okR := ⟨_, rfl⟩
  have HRR := hid hR
  have HPut : Hid (∀ (W : World), Below w.heap.size w W → Calls Tryz.prog 123 #[cv b nm pa na ca, .agg #[txt k, .int .i64 1, txt x, .slice none 0 0, .slice none 0 0, .int .i64 0, .int .i64 0, .int .i64 0], rval okR none 0] W fun e w' => ∃ q' d', e = .returned (rval R q' d') ∧ Hid (Post B (fun _ => False) W b O A room now M R w' (rval R q' d'))) := fun W hb => by
    have := put_any (h.below hb) nm pa na ca ⟨k, plainV x, none, 0, none, 0, 0⟩ ⟨hl0, ⟨Nat.zero_le _, Nat.zero_le _, hl1, (fun x hx => by cases hx), (fun x hx => by cases hx), (fun x hx => by cases hx), (by show In64 1; decide), (by show In64 0; decide), (by show In64 0; decide)⟩, (by show 0 * 32 ≤ _; omega), (by show 0 * 16 ≤ _; omega), (by show In64 0; decide)⟩ ⟨⟨Rp.nilRow _, Rd.nilRow _⟩, fun h => absurd rfl h, fun h => absurd rfl h⟩ okR none 0 (fun _ => False) (fun _ h => h.elim) (rp_flat (fit_sim (s := tOk) (by decide)).1 (fit_sim (s := tOk) (by decide)).2)
    rw [hR, hM]
    exact this
  rw [← hM, ← hR]
  have HD : Hid (∀ W : World, Calls Tryz.prog 98 #[] W fun e w' => e = .returned (rval okR none 0) ∧ Hid (Below W.heap.size W w')) := fun W => done_any W
  have hcz : (2 : Int) ≤ (c : Int) := by omega
  have HG := hid (fun (W : World) (hb : Below w.heap.size w W) => sp_get (HS.out.below hb) k hl0)
  clear h hM hR h0 h1
  go_enter Tryz.func122, Tryz.ntmps122
  go_wp2_with fail
  go_cut [5, 6] (fun c5 c6 wx => c5 = txt k ∧ c6 = txt x ∧ wx = ((w.alloc (cob b nm pa na ca)).alloc rob0).drew)
  case first =>
    go_region
    all_goals
      go_wp2_with fail
      go_meet
      exact ⟨rfl, rfl, rfl⟩
  case rest =>
  obtain ⟨rfl, rfl, hw0⟩ := hcut
  have HB0 : Hid (Below w.heap.size w wc) := by rw [hw0]; exact HA.out.1.drew
  have HC0 : Hid (wc.heap[w.heap.size]? = some (cob b nm pa na ca)) := by rw [hw0]; exact HA.out.2.1
  have HZ0 : Hid (wc.heap[w.heap.size + 1]? = some rob0) := by rw [hw0]; exact HA.out.2.2.1
  have hs0 : w.heap.size + 2 ≤ wc.heap.size := by rw [hw0]; exact Nat.le_of_eq HA.out.2.2.2.symm
  clear hw0 HA k0 k1 k0d k1d
  generalize wc = w0 at *
  obtain ⟨x0, x1, x2⟩ := call_facts HC0.out
  replace HG := hid (HG.out w0 HB0.out)
  go_wp2_with fail
  refine HG.out.mono ?_; rintro e w1 ⟨y, rfl, hh⟩
  have hb := hh.out.2.2
  have hba := below_alloc w1 (eob y)
  have hs1 : w.heap.size + 2 ≤ w1.heap.size := Nat.le_trans hs0 hb.size
  have HB2 := hid (HB0.out.trans ((hb.trans (hba.mono hb.size)).mono HB0.out.size))
  have HC2 := hid ((hba.block w.heap.size (by omega)).trans ((hb.block w.heap.size (by omega)).trans HC0.out))
  have HZ2 := hid ((hba.block (w.heap.size + 1) (by omega)).trans ((hb.block (w.heap.size + 1) (by omega)).trans HZ0.out))
  have hs2 : w.heap.size + 2 ≤ (w1.alloc (eob y)).heap.size := by simp; omega
  clear hh hb hba x0 x1 x2
  go_upto_region 5 with fail
  generalize w1.alloc (eob y) = w2 at HB2 HC2 HZ2 hs2 ⊢
  obtain ⟨x0, x1, x2⟩ := call_facts HC2.out
  have HXa : Hid (Below w2.heap.size w2 (w2.alloc rob0).drew) := (below_alloc w2 rob0).drew
  have HBa : Hid (Below w.heap.size w (w2.alloc rob0).drew) := HB2.out.trans (HXa.out.mono HB2.out.size)
  have HBd : Hid (Below w.heap.size w w2.drew) := HB2.out.drew
  obtain ⟨v0, v1, v2⟩ := call_facts ((HXa.out.block w.heap.size (by omega)).trans HC2.out)
  have HRa : Hid ((w2.alloc rob0).drew.heap[w2.heap.size]? = some rob0) := heap_alloc_new w2 rob0
  have hsa : (w2.alloc rob0).drew.heap.size = w2.heap.size + 1 := by show (w2.alloc rob0).heap.size = _; simp
  go_cut [9] (fun c9 wx => Rel9 B w b O A room now M R nm pa na ca c9 wx)
  case first =>
    go_region_law
      (first
        | (go_simp; go_at_call 98; (with_reducible refine (HD.out w2.drew).mono ?_); rintro e w3 ⟨rfl, hb⟩; have hs3 : w2.heap.size ≤ w3.heap.size := hb.out.size; have HB3 := hid (HBd.out.trans (hb.out.mono HBd.out.size)); have HC3 := hid ((hb.out.block w.heap.size (show w.heap.size < w2.heap.size by omega)).trans HC2.out); have HZ3 := hid ((hb.out.block (w.heap.size + 1) (show w.heap.size + 1 < w2.heap.size by omega)).trans HZ2.out); obtain ⟨z0, z1, z2⟩ := call_facts HC3.out; have HX3 := hid (below_alloc w3 rob0); have HBx := hid (HB3.out.trans (HX3.out.mono HB3.out.size)); obtain ⟨z3, z4, z5⟩ := call_facts ((HX3.out.block w.heap.size (by omega)).trans HC3.out); have HRx := hid (heap_alloc_new w3 rob0); clear hb)
        | (go_simp; go_at_call 98; (with_reducible refine (HD.out (w2.alloc rob0).drew).mono ?_); rintro e w3 ⟨rfl, hb⟩; have hs3 : w2.heap.size + 1 ≤ w3.heap.size := (by have := hb.out.size; omega); have HB3 := hid (HBa.out.trans (hb.out.mono HBa.out.size)); have HC3 := hid ((hb.out.block w.heap.size (by omega)).trans ((HXa.out.block w.heap.size (by omega)).trans HC2.out)); have HZ3 := hid ((hb.out.block (w.heap.size + 1) (by omega)).trans ((HXa.out.block (w.heap.size + 1) (by omega)).trans HZ2.out)); have HRe := hid ((hb.out.block w2.heap.size (by omega)).trans HRa.out); obtain ⟨z0, z1, z2⟩ := call_facts HC3.out; clear hb)
        | (go_simp; go_at_call 123; have _q := HRe.out; (with_reducible refine (HPut.out w3 HB3.out).mono ?_); rintro e w4 ⟨q, d, rfl, hh⟩; have hre := (post_own HS.out hh.out w2.heap.size (by omega) (by omega)).trans HRe.out; obtain ⟨d0, d1, d2, d3⟩ := rep_facts hre; obtain ⟨f0, f1, f2, f3⟩ := rep_frozen hre)
        | (go_simp; go_at_call 123; (with_reducible refine (HPut.out w3 HB3.out).mono ?_); rintro e w4 ⟨q, d, rfl, hh⟩)
        | (go_simp; go_at_call 123; (with_reducible refine (HPut.out (w3.alloc rob0) HBx.out).mono ?_); rintro e w4 ⟨q, d, rfl, hh⟩; have hre := (post_own HS.out hh.out w3.heap.size (by omega) (by simp)).trans HRx.out; obtain ⟨d0, d1, d2, d3⟩ := rep_facts hre; obtain ⟨f0, f1, f2, f3⟩ := rep_frozen hre))
    all_goals
      go_wp2_with fail
      go_meet
      first
        | (have _q := HRe.out; exact rel_old HS.out HB3.out (by omega) HZ3.out HC3.out hh.out hs2 (by omega) hre)
        | (have _q := f0; exact rel_old HS.out HBx.out (by simp; omega) ((HX3.out.block _ (by omega)).trans HZ3.out) ((HX3.out.block _ (by omega)).trans HC3.out) hh.out (Nat.le_trans hs2 hs3) (by simp) hre)
        | exact rel_new HS.out HB3.out (by omega) HZ3.out HC3.out hh.out
  case rest =>
  obtain ⟨rb, q, d, rfl, hrb, hrl, HR5, HZ5, HC5, HS5⟩ := hcut
  clear x0 x1 x2 v0 v1 v2 HXa HBa HBd HRa hsa HPut HD HG
  generalize wc = w5 at *
  obtain ⟨x0, x1, x2⟩ := call_facts HC5.out
  have HF := hid (fault_any R q d w5)
  go_wp2_with (refine wpList_load_row rfl 32 _ rfl rb rfl 32 _ (0, 0) _ HR5.out Tryz.underlying32 rfl (Re.infoRep _ _ _ _) ?_)
  refine HF.out.mono ?_; rintro e w6 ⟨rfl, hb⟩
  have hs6 := hb.out.size
  have HR6 := hid ((hb.out.block rb hrl).trans HR5.out)
  have HZ6 := hid ((hb.out.block (w.heap.size + 1) (by omega)).trans HZ5.out)
  have HC6 := hid ((hb.out.block w.heap.size (by omega)).trans HC5.out)
  have HS6 : Hid (∃ O5 A5, Sp B w6 b O5 A5 M room now ∧ Stp w w6 O O5 A A5 ∧ ¬ A5 rb ∧ ¬ A5 (w.heap.size + 1) ∧ ¬ A5 w.heap.size ∧ Re.Rp (fun _ => False) w6 2 (rval R q d) R) := by
    obtain ⟨O5, A5, h1, h2, h3, h4, h5, h6⟩ := HS5.out
    exact ⟨O5, A5, h1.below hb.out, h2.trans (Stp.below hb.out O5 A5), h3, h4, h5, h6.below hb.out (Nat.le_refl _)⟩
  have hrl6 : rb < w6.heap.size := by omega
  clear hb HS5 x0 x1 x2 HF HR5 HZ5 HC5
  by_cases hf : R.kind = 2
  · have hfb : (R.kind == 2) = true := beq_iff_eq.2 hf
    clear hf
    go_wp2_with (first
      | (refine wpList_load_row rfl 32 _ rfl rb rfl 32 _ (0, 0) _ HR6.out Tryz.underlying32 rfl (Re.infoRep _ _ _ _) ?_)
      | (refine wpList_store_row rfl 32 _ _ rfl (w.heap.size + 1) #[.int .i64 R.kind, .int .i64 R.int, txt R.text, .slice q R.list.length d] rfl rfl 32 _ HZ6.out (Re.infoRep _ _ _ _) rfl (one_r _ _ _) ?_))
    refine bodyPost_ret (v := rval R q d) ?_ rfl ?_
    · exact Re.ret_rep1 rfl rfl (setRow_heap w6 _ _ _ _ _ HZ6.out)
    · obtain ⟨O5, A5, h1, h2, h3, h4, h5, h6⟩ := HS6.out
      exact ⟨q, d, rfl, fin5 HS.out h1 h2 h4 (by omega) (keep_row _ _ _) (h6.turn (fun _ h _ => h.elim) (Nat.le_refl _))⟩
  · have hfb : (R.kind == 2) = false := beq_eq_false_iff_ne.2 hf
    obtain rfl : R = okR := by
      have h9 := HRR.out
      unfold putR at h9
      by_cases h0 : putEL L room now (k, plainV x, 0) = 0
      · rw [h9, if_pos h0]
      · rw [if_neg h0] at h9
        by_cases h1 : putEL L room now (k, plainV x, 0) = 110
        · rw [if_pos h1] at h9; exact absurd (by rw [h9]; rfl) hf
        · rw [if_neg h1] at h9; exact absurd (by rw [h9]; rfl) hf
    clear hf HRR
    obtain ⟨A2, hA2⟩ : ∃ A2 : Option Addr, (if c = 2 then some (⟨g, o, none⟩ : Addr) else some ⟨g, o + 2, none⟩) = A2 := ⟨_, rfl⟩
    have HNil : Hid (∃ O5 A5, (Sp B w6.drew b O5 A5 M room now ∧ Stp w w6.drew O O5 A A5 ∧ ¬ A5 rb ∧ ¬ A5 (w.heap.size + 1) ∧ ¬ A5 w.heap.size) ∧ Calls Tryz.prog 122 #[cv b nm pa na ca, .slice A2 0 (c - 2)] w6.drew fun e w' => ∃ q d, e = .returned (rval okR q d) ∧ Hid (Post B (fun _ => False) w6.drew b O5 A5 room now M okR w' (rval okR q d))) := by
      obtain ⟨O5, A5, h1, h2, h3, h4, h5, h6⟩ := HS6.out
      have hd : Below w6.heap.size w6 w6.drew := (Below.refl _ _).drew
      exact ⟨O5, A5, ⟨h1.below hd, h2.trans (Stp.below hd O5 A5), h3, h4, h5⟩, set_nil (h1.below hd) nm pa na ca A2 (c - 2)⟩
    obtain ⟨O5, A5, hsp5, hcall⟩ := HNil.out
    have HS7 := hid hsp5
    have HCl := hid hcall
    clear hsp5 hcall HNil HS6
    obtain ⟨x0, x1, x2⟩ := call_facts HC6.out
    go_wp2_with fail
    go_cut [9] (fun c9 wx => c9 = pt rb ∧ ∃ q7 d7 w7, Hid (Post B (fun _ => False) w6.drew b O5 A5 room now M okR w7 (rval okR q7 d7)) ∧ w6.heap.size ≤ w7.heap.size ∧ Hid (w7.heap[rb]? = some (rob okR q d)) ∧ wx = (set4 w7 rb (.int .i64 okR.kind) (.int .i64 okR.int) (txt okR.text) (.slice q7 okR.list.length d7)))
    case first =>
      go_region_law (go_simp; go_at_call 122; refine HCl.out.mono ?_; rintro e w7 ⟨q7, d7, rfl, hh⟩; have hz7 : w6.heap.size ≤ w7.heap.size := (show w6.drew.heap.size ≤ w7.heap.size from post_size hh.out); have HH := hid hh.out; have hre := (own5 HS7.out.2.2.1 hh.out HS7.out.1 hrl6).trans HR6.out; obtain ⟨d0, d1, d2, d3⟩ := rep_facts hre; obtain ⟨f0, f1, f2, f3⟩ := rep_frozen hre; have HRe := hid hre; clear hh hre)
      all_goals
        go_wp2_with fail
        go_meet
        exact ⟨rfl, q7, d7, w7, HH, hz7, HRe, rfl⟩
    case rest =>
      obtain ⟨rfl, q7, d7, w7, HH, hz7, HRe, hw8⟩ := hcut
      have hk := set4_keep w7 rb (.int .i64 okR.kind) (.int .i64 okR.int) (txt okR.text) (.slice q7 okR.list.length d7)
      have HR8 := hid (set4_same (.int .i64 okR.kind) (.int .i64 okR.int) (txt okR.text) (.slice q7 okR.list.length d7) HRe.out)
      have HZ8 := hid ((hk.block (w.heap.size + 1) (by omega) (by show w.heap.size + 1 ≠ rb; omega)).trans ((own5 HS7.out.2.2.2.1 HH.out HS7.out.1 (show w.heap.size + 1 < w6.heap.size by omega)).trans HZ6.out))
      have HK8 := hid hk
      have hz8 : rb < (set4 w7 rb (.int .i64 okR.kind) (.int .i64 okR.int) (txt okR.text) (.slice q7 okR.list.length d7)).heap.size := by have := hk.size; omega
      clear hk x0 x1 x2
      rw [← hw8] at HR8 HZ8 HK8 hz8
      clear hw8
      generalize wc = w8 at *
      have HF := hid (fault_any okR q7 d7 w8)
      go_wp2_with (refine wpList_load_row rfl 32 _ rfl rb rfl 32 _ (0, 0) _ HR8.out Tryz.underlying32 rfl (Re.infoRep _ _ _ _) ?_)
      refine HF.out.mono ?_; rintro e w9 ⟨rfl, hb⟩
      have hs9 := hb.out.size
      have HR9 := hid ((hb.out.block rb hz8).trans HR8.out)
      have HZ9 := hid ((hb.out.block (w.heap.size + 1) (by omega)).trans HZ8.out)
      have hfo : (okR.kind == 2) = false := by decide
      have HB9 := hid hb.out
      clear hb
      go_wp2_with (first
        | (refine wpList_load_row rfl 32 _ rfl rb rfl 32 _ (0, 0) _ HR9.out Tryz.underlying32 rfl (Re.infoRep _ _ _ _) ?_)
        | (refine wpList_store_row rfl 32 _ _ rfl (w.heap.size + 1) #[.int .i64 okR.kind, .int .i64 okR.int, txt okR.text, .slice q7 okR.list.length d7] rfl rfl 32 _ HZ9.out (Re.infoRep _ _ _ _) rfl (one_r _ _ _) ?_))
      refine bodyPost_ret (v := rval okR q7 d7) ?_ rfl ?_
      · exact Re.ret_rep1 rfl rfl (setRow_heap w9 _ _ _ _ _ HZ9.out)
      · obtain ⟨O7, A7, h1, h2, h3⟩ := HH.out.ex
        have hno : ∀ f, ¬ A5 f → f < w6.heap.size → ¬ A7 f := fun f hf hl ha => by
          rcases h2.a f ha with h' | h'
          · exact hf h'
          · have : w6.heap.size ≤ f := h'; omega
        have hr7 := hno rb HS7.out.2.2.1 hrl6
        obtain ⟨g1, g2⟩ := fin6 HS.out h1 (HS7.out.2.1.trans h2) hr7 (by omega) HK8.out
        exact ⟨q7, d7, rfl, fin5 HS.out (g1.below HB9.out) (g2.trans (Stp.below HB9.out O7 A7)) (hno (w.heap.size + 1) HS7.out.2.2.2.1 (by omega)) (by omega) (keep_row _ _ _) (h3.turn (fun _ h _ => h.1.elim) (Nat.le_refl _))⟩

end Go.Proofs.YtcbncdigejjcpaaGreatDoor.Ex
