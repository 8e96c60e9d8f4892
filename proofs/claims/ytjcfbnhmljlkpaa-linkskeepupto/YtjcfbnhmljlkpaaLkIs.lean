/- The landed links keep what the laws must know of them. -/
import Derived.Test.YtjcfbnhmljlkpaaLkPairs
namespace Go.Proofs.Ytjcfbnhmljlkpaa
open Go.RowKit Go.Maps

theorem links_is : LinksIs LB where
  lt h := h.lt
  sep h := by
    obtain ⟨m, D, pl, h⟩ := h
    exact h.sep
  ends h f t hn := h.ends f t hn
  keep h := h.keep
  new := knew_any
  send h f t x ap ac rp rc hx hf hi hl := ksend_any h f t x ap ac rp rc hx hf hi hl
  next h f t hi hl := knext_any h f t hi hl
  waiting h f t hi _ := kwaiting_any h f t hi
  pairs h hl := kpairs_any h hl
  clone h hl := kclone_any h hl

end Go.Proofs.Ytjcfbnhmljlkpaa
