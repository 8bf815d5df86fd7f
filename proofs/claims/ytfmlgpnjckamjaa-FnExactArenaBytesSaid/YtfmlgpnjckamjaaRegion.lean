/-
  A region that draws its order, whose operations read cells that nothing turns, and whose callees may make memory: one walk.
-/
import Derived.Test.YtfmlgpnjckamjaaArn
import Derived.BigQuiet
namespace Go
/-- a world behind w in which nothing that was there has turned -/
structure Wn (w : World) where
  val : World
  prop : RowKit.Below w.heap.size w val
instance Wn.there (w : World) : Nonempty (Wn w) := ⟨⟨w, .refl _ _⟩⟩
theorem region_below {P : Program} {id : Nat} {Q : Exit → Act → World → Prop} {a : Act} {w : World} {l : List Oper} (hm : P.follows .mixedOrders = true) (hB : Region.lexB .any l.toArray = true)
    (h : wpQuiet P l.toArray (fun w' => ∃ u : Wn w, w' = u.val) (fun a' => ∀ w', (∃ u : Wn w, w' = u.val) → Q .normal a' w') l a) : (Code.region id l.toArray true).wp P Q a w :=
  wp_region_quiet (C := fun w' => ∃ u : Wn w, w' = u.val) hm hB ⟨⟨_, (RowKit.Below.refl _ _).drew⟩, rfl⟩ (by simpa using h)

/-- a callee's contract there -/
theorem Calls.there {P : Program} {f : FuncId} {args : Array Value} {w : World} {v : Value} (u : Wn w)
    (h : Calls P f args u.val fun e w' => e = .returned v ∧ RowKit.Below u.val.heap.size u.val w') : Calls P f args u.val fun e w'' => e = .returned v ∧ ∃ u' : Wn w, w'' = u'.val :=
  h.mono fun _ w' ⟨he, hb⟩ => ⟨he, ⟨w', u.prop.trans (hb.mono u.prop.size)⟩, rfl⟩
end Go
