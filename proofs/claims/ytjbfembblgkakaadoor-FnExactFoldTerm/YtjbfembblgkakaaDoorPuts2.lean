/-
  What is put for variables: the model's PutAll whole.
-/
import Derived.Test.YtjbfembblgkakaaDoorPuts
namespace Go.Proofs.YtjbfembblgkakaaDoor
open Go Go.RowKit
open M
set_option linter.unusedVariables false

theorem NodesSS.shape {w : World} {v : Value} {bs : List (List Nd)} (h : NodesSS w v bs) : ∃ (a : Option Addr) (cap : Nat), v = .slice a bs.length cap := by
  rcases h.2 with ⟨rfl, a, cap, h⟩ | ⟨b, off, cap, h, _⟩
  · exact ⟨a, cap, h⟩
  · exact ⟨_, cap, h⟩
def canPut (wide vars : Int) (t : List Nd) (bs : List (List Nd)) : Bool := decide (0 < kindL wide vars t) && (decide ((bs.length : Int) = vars) && bs.all fun u => decide (kindL wide vars u = 1))
def saidPut (wide vars : Int) (t : List Nd) (bs : List (List Nd)) : Bool := canPut wide vars t bs && decide (0 < kindL wide vars (putsL bs t))
def putAllL (wide vars : Int) (t : List Nd) (bs : List (List Nd)) : List Nd := if canPut wide vars t bs = true then madeL wide vars (putsL bs t) else []
end Go.Proofs.YtjbfembblgkakaaDoor
