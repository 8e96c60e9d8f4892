/- The program's dict of numbers: all that its methods do. -/
import Derived.Test.YtphegggekcjenaaDoorDIDq
import Derived.Test.YtphegggekcjenaaDoorDIDel
import Derived.Test.YtphegggekcjenaaDoorDICloneA
namespace Go.Proofs.YtphegggekcjenaaDoor
open Go.RowKit

theorem meth (B : Nat) (hB : 0 < B) : MethI Tab B (DI.Dq B) where
  turn := DI.dq_turn
  base := DI.dq_base
  env := fun h _ hk i hi => cell_turn (h i hi) (hk _ hB)
  lt := DI.dq_lt
  srt := DI.dq_srt
  nms := DI.dq_nms
  new := DI.dq_new hB
  put := DI.dq_put
  del := fun b O D n w h hS hn => by
    obtain ⟨g, nb, ev, T, hO, hL, hG, hE, hnm⟩ := h
    refine (DI.del_any ⟨hL, hG, hE, DI.Turn.refl g w⟩ hS hnm n hn).mono fun e w' ⟨he, hh⟩ => ⟨he, ?_⟩
    obtain ⟨g', nb', ev', T', hH⟩ := hh.out
    refine hH.dq (fun x hx => ?_) O hO
    rw [delD_L] at hx
    exact hnm x (delL_mem.1 hx).1
  get := DI.dq_get
  step := fun b O D w h hS => by
    obtain ⟨g, nb, ev, T, hO, hL, hG, hE, hnm⟩ := h
    refine (DI.Half.step ⟨hL, hG, hE, DI.Turn.refl g w⟩ hS hnm).mono fun e w' ⟨he, hh⟩ => ⟨he, ?_⟩
    obtain ⟨g', ev', T', hH⟩ := hh.out
    exact hH.dq hnm O hO
  length := DI.dq_len
  rooms := fun b O D w h hS => by
    obtain ⟨g, nb, ev, T, hO, hL, hG, hE, hnm⟩ := h
    have h1 := DI.rooms_any hL (DI.Fit.of hG hS) (by rcases hG.tk with ⟨e1, e2⟩ | e <;> omega)
    rw [hG.rooms, ← hG.left] at h1
    exact h1
  names := DI.dq_names
  clone := fun b O D w h hS => by
    obtain ⟨g, nb, ev, T, hO, hL, hG, hE, hnm⟩ := h
    refine (DI.clone_any hL (DI.Fit.of hG hS) hE.size).mono fun e w' ⟨cb, he, hh⟩ => ⟨cb, he, ?_⟩
    obtain ⟨gC, nb', ev', hL', hlt, hb⟩ := hh.out
    exact ⟨fun k => gC k ≠ none, ⟨gC, nb', ev', T, fun _ => Iff.rfl, hL', hG, hE.below hb hE.size, hnm⟩, hlt, hb⟩

end Go.Proofs.YtphegggekcjenaaDoor
