/-
  Texts of this claim, one behind the other: RtLast.
-/
import Derived.Test.YtjhnippfepbjmaaGreatDoorJ28
import Derived.Test.YtjhnippfepbjmaaGreatDoorJ6
import Derived.Deep.DeepCutAuto

/-
  The later root of a device; the contract of spec.LastRoot.
-/
namespace Go.Proofs.YtjhnippfepbjmaaGreatDoor
namespace Rt
open Go.RowKit

/-- The two numbers and the flag of what a text tells. -/
def rootS (x : ByteArray) : Int := ((rootA x).map Prod.fst).getD 0
def rootR (x : ByteArray) : Int := ((rootA x).map Prod.snd).getD 0
def rootF (x : ByteArray) : Bool := (rootA x).isSome

theorem rootV_eq (x : ByteArray) : rootV x = .tuple #[.agg #[.int .i64 (rootS x), .int .i64 (rootR x)], .bool (rootF x)] := by
  unfold rootV rootS rootR rootF
  cases rootA x with
  | none => rfl
  | some p => rfl

/-- What LastRoot tells of two texts. -/
def lastV (x y : ByteArray) : Value :=
  if rootF x = false ∧ rootF y = false then .tuple #[.agg #[.int .i64 0, .int .i64 0], .int .i64 0, .bool false]
  else if rootF x = false ∨ rootF y = true ∧ rootS x < rootS y then .tuple #[.agg #[.int .i64 (rootS y), .int .i64 (rootR y)], .int .i64 1, .bool true]
  else .tuple #[.agg #[.int .i64 (rootS x), .int .i64 (rootR x)], .int .i64 0, .bool true]

theorem results_root3 {fn : Func} {p u v : Tmp} (h : fn.results = #[.cell p 39, .tmp u, .tmp v]) (tmps : Array Value) (w : World) (g : Nat) (a b : Int) (hp : tmps.getD p undef = .pointer (some ⟨g, 0, none⟩)) (hg : RBox w g a b) :
    (results fn tmps).run Tryz.prog w = .ok (.tuple #[.agg #[.int .i64 a, .int .i64 b], tmps.getD u undef, tmps.getD v undef]) w := by
  have hr := run_loadVar_row (P := Tryz.prog) w g 39 39 #[.int .i64 a, .int .i64 b] (0, 0) _ hg Tryz.underlying39 rfl (by kernel_rfl)
  have hp' : tmps[p]?.getD undef = .pointer (some ⟨g, 0, none⟩) := by simpa using hp
  simp only [results, h]
  simp [Result.andThen, hp', asAddr, hr]

end Rt
end Go.Proofs.YtjhnippfepbjmaaGreatDoor
