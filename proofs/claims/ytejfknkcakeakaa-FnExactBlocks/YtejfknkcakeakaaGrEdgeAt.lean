/-
  The contracts of spec.Scalar and spec.EdgeAt.
-/
import Derived.Test.YtejfknkcakeakaaGrOk
namespace Go.Proofs.Ytejfknkcakeakaa
namespace Gr
open Go.RowKit

/-- The three worths as one number. -/
def scal (x : EdgeI) : Int := wrap64 (90000 * x.W1 + 300 * x.W2 + x.W3)

theorem wrap_mod (x : Int) : wrap64 x = (x + 9223372036854775808) % 18446744073709551616 - 9223372036854775808 := by unfold wrap64; rfl

theorem wrap_add_l (x y : Int) : wrap64 (wrap64 x + y) = wrap64 (x + y) := by
  rw [wrap_mod, wrap_mod, wrap_mod]; omega

theorem wrap_add_r (x y : Int) : wrap64 (x + wrap64 y) = wrap64 (x + y) := by
  rw [wrap_mod, wrap_mod, wrap_mod]; omega

/-- Whether an edge lies between a and b. -/
def hit (a b : Int) (e : EdgeI) : Bool := ((e.A == a) && (e.B == b)) || ((e.A == b) && (e.B == a))

/-- Where the first edge between a and b stands. -/
def atFrom (a b : Int) : Nat → List EdgeI → Int
  | _, [] => -1
  | k, e :: r => if hit a b e = true then (k : Int) else atFrom a b (k + 1) r

theorem atFrom_step (a b : Int) (Q : List EdgeI) (k : Nat) (h : k < Q.length) : atFrom a b k (Q.drop k) = if hit a b Q[k] = true then (k : Int) else atFrom a b (k + 1) (Q.drop (k + 1)) := by
  rw [← List.getElem_cons_drop h]
  rfl

set_option maxRecDepth 100000 in
set_option maxHeartbeats 4000000 in
theorem specAt_any (v : Value) (B : Nat) (s x y : Int) (Q : List EdgeI) (h1 : Q.length ≤ 1048576) (w : World) (hB : B ≤ w.heap.size) (hv : GrAt w v B s Q) :
    Calls Try.prog 70 #[v, .int .i64 x, .int .i64 y] w fun e w' => e = .returned (.int .i64 (atFrom x y 0 Q)) ∧ Below w.heap.size w w' := by
  obtain ⟨a, n, c, rfl, hE⟩ := hv
  obtain ⟨hL, hc⟩ := hE
  have HST := hide (fun k h => atFrom_step x y Q k h)
  have HEND : Hid (atFrom x y n (Q.drop n) = -1) := by show _ = _; rw [← hL, List.drop_length]; rfl
  have H0 : Hid (atFrom x y 0 Q = atFrom x y 0 (Q.drop 0)) := rfl
  have HC := hide hc
  have HL := hide hL
  have HN : Hid (n ≤ 1048576) := by show _ ≤ _; omega
  generalize atFrom x y 0 Q = r at H0 ⊢
  clear hc hL h1
  go_enter Try.func70, Try.ntmps70
  go_wp2_with fail
  obtain ⟨V1, hV1⟩ : ∃ W, W = w.alloc (Obj.cells #[Value.int .i64 s, Value.slice a n c] 30) := ⟨_, rfl⟩
  rw [← hV1]
  have x1 : GBox V1 w.heap.size s (.slice a n c) := by rw [hV1]; exact GBox.new _ _ _
  have b1 : Below w.heap.size w V1 := by rw [hV1]; exact below_new _ _
  clear hV1
  obtain ⟨p0, p1⟩ := x1.cells
  go_loopw [7] (fun i wr => ∃ j : Nat, i = .int .i64 (j : Int) ∧ j ≤ n ∧ Hid (r = atFrom x y j (Q.drop j)) ∧ wr = V1) (fun i _ => n - (intOf i).toNat)
  case atStart => exact ⟨0, rfl, Nat.zero_le _, unhide H0, rfl⟩
  case round =>
    obtain ⟨j, rfl, hj, HR, rfl⟩ := hrel
    by_cases hlt : j < n
    · have hjL : j < Q.length := by have := unhide HL; omega
      obtain ⟨b, off, rfl, hbB, c0, c1, _⟩ := unhide HC j hjL
      rw [← b1.cell (p := ⟨b, off + j * 5, none⟩) (by simp; omega)] at c0
      rw [← b1.cell (p := ⟨b, off + j * 5 + 1, none⟩) (by simp; omega)] at c1
      have hr := (unhide HR).trans (unhide HST j hjL)
      generalize hrest : atFrom x y (j + 1) (Q.drop (j + 1)) = rest at hr
      have HREST := hide hrest
      have hx0 : (0 : Int) ≤ (j : Int) := by omega
      have hx1 : (j : Int) < (n : Int) := by omega
      have hx2 : (n : Int) ≤ 9223372036854775807 := by have := unhide HN; omega
      generalize Q[j] = q at c0 c1 hr
      obtain ⟨y0, y1, y2, y3, y4⟩ := q
      have hh : hit x y ⟨y0, y1, y2, y3, y4⟩ = (((y0 == x) && (y1 == y)) || ((y0 == y) && (y1 == x))) := rfl
      simp only at c0 c1
      generalize hit x y ⟨y0, y1, y2, y3, y4⟩ = h at hh hr
      clear hrest HR
      cases t0 : (y0 == x) <;> cases t1 : (y1 == y) <;> cases t2 : (y0 == y) <;> cases t3 : (y1 == x)
      all_goals
        rw [t0, t1, t2, t3] at hh
        first | (obtain rfl : h = true := hh) | (obtain rfl : h = false := hh)
        first | rw [if_pos rfl] at hr | rw [if_neg (by simp)] at hr
        subst hr
        go_wp2
        first
          | (go_ret; exact ⟨rfl, b1⟩)
          | (go_roundw
             case rel => exact ⟨j + 1, by go_num, by omega, (by show _ = _; rw [unhide HREST]), (by first | rfl | trivial)⟩
             case measure => simp [intOf]; omega)
    · obtain rfl : j = n := by omega
      have hr := (unhide HR).trans (unhide HEND)
      subst hr
      go_wp2
      go_ret
      exact ⟨rfl, b1⟩

/-- What EdgeAt tells. -/
def edgeAtV (s x y : Int) (Q : List EdgeI) : Int := if graphOk s Q = true then atFrom x y 0 Q else -1

end Gr
end Go.Proofs.Ytejfknkcakeakaa
