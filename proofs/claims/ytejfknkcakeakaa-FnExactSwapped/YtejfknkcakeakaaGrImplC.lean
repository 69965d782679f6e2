/-
  The contract of impl.EdgeAt.
-/
import Derived.Test.YtejfknkcakeakaaGrImplB
import Derived.Test.YtejfknkcakeakaaGrIndMath
namespace Go.Proofs.Ytejfknkcakeakaa
namespace Gr
open Go.RowKit

theorem hit_le {s x y : Int} {e : EdgeI} (he : edgeOk s e = true) (hxy : x ≤ y) : hit x y e = ((e.A == x) && (e.B == y)) := by
  have := (edgeOk_iff s e).1 he
  unfold hit
  by_cases h1 : e.A = x <;> by_cases h2 : e.B = y <;> by_cases h3 : e.A = y <;> by_cases h4 : e.B = x <;> simp [h1, h2, h3, h4] <;> omega

theorem hit_gt {s x y : Int} {e : EdgeI} (he : edgeOk s e = true) (hxy : y < x) : hit x y e = ((e.A == y) && (e.B == x)) := by
  have := (edgeOk_iff s e).1 he
  unfold hit
  by_cases h1 : e.A = x <;> by_cases h2 : e.B = y <;> by_cases h3 : e.A = y <;> by_cases h4 : e.B = x <;> simp [h1, h2, h3, h4] <;> omega

theorem hit_min {s x y : Int} {e : EdgeI} (he : edgeOk s e = true) : hit x y e = ((e.A == min x y) && (e.B == max x y)) := by
  by_cases hxy : x ≤ y
  · rw [hit_le he hxy, Int.min_eq_left hxy, Int.max_eq_right hxy]
  · rw [hit_gt he (by omega), Int.min_eq_right (by omega), Int.max_eq_left (by omega)]

set_option maxRecDepth 100000 in
set_option maxHeartbeats 2000000 in
theorem implEdgeAt_gen (B : Nat) (v : Value) (s : Int) (Q : List EdgeI) (x y : Int) (h1 : Q.length ≤ 1048576) (w : World) (hB : B ≤ w.heap.size) (hv : GrAt w v B s Q) :
    Calls Try.prog 89 #[v, .int .i64 x, .int .i64 y] w fun e w' => e = .returned (.int .i64 (edgeAtV s x y Q)) ∧ Below w.heap.size w w' := by
  have OK := hide (fun w1 (hb : Below w.heap.size w w1) => implGraph_gen B v s Q h1 w1 (by have := hb.size; omega) (hv.below hb hB))
  obtain ⟨a, n, c, rfl, hE⟩ := hv
  obtain ⟨hL, hc⟩ := hE
  have hV : edgeAtV s x y Q = if graphOk s Q = true then atFrom x y 0 Q else -1 := rfl
  have HH : Hid (graphOk s Q = true → ∀ k (h : k < Q.length), hit x y Q[k] = ((Q[k].A == min x y) && (Q[k].B == max x y))) := fun hg k h => by
    obtain ⟨_, _, h2, _⟩ := graph_sound hg
    exact hit_min (h2 _ (List.getElem_mem h))
  have HST := hide (fun k h => atFrom_step x y Q k h)
  have HEND : Hid (atFrom x y n (Q.drop n) = -1) := by show _ = _; rw [← hL, List.drop_length]; rfl
  have H0 : Hid (atFrom x y 0 Q = atFrom x y 0 (Q.drop 0)) := rfl
  have HC := hide hc
  have HL := hide hL
  have HN : Hid (n ≤ 1048576) := by show _ ≤ _; omega
  generalize edgeAtV s x y Q = V at hV ⊢
  generalize atFrom x y 0 Q = r at H0 hV
  generalize graphOk s Q = ok at OK hV HH
  clear h1 hc hL
  obtain ⟨mn, hmn⟩ : ∃ m, m = min x y := ⟨_, rfl⟩
  obtain ⟨mx, hmx⟩ : ∃ m, m = max x y := ⟨_, rfl⟩
  rw [← hmn, ← hmx] at HH
  go_enter Try.func89, Try.ntmps89
  go_wp2_with fail
  obtain ⟨V1, hV1⟩ : ∃ W, W = w.alloc (Obj.cells #[Value.int .i64 s, Value.slice a n c] 30) := ⟨_, rfl⟩
  rw [← hV1]
  have x1 : GBox V1 w.heap.size s (.slice a n c) := by rw [hV1]; exact GBox.new _ _ _
  have b1 : Below w.heap.size w V1 := by rw [hV1]; exact below_new _ _
  clear hV1
  refine (unhide OK V1 b1).mono ?_
  rintro e w2 ⟨rfl, hb2⟩
  have x2 := x1.below hb2
  have b2 := b1.trans (hb2.mono b1.size)
  have hwl := x2.lt
  obtain ⟨p0, p1⟩ := x2.cells
  clear hb2 x1
  cases ok
  · rw [if_neg (by simp)] at hV
    subst hV
    go_wp2
    go_ret
    exact ⟨rfl, b2⟩
  · rw [if_pos rfl] at hV
    subst hV
    have HHT := hide (unhide HH rfl)
    clear HH
    go_wp2_with fail
    go_loopw [15] (fun i wr => ∃ j : Nat, i = .int .i64 (j : Int) ∧ j ≤ n ∧ Hid (V = atFrom x y j (Q.drop j)) ∧ Below w2.heap.size w2 wr) (fun i _ => n - (intOf i).toNat)
    case atStart => exact ⟨0, rfl, Nat.zero_le _, unhide H0, Below.refl _ _⟩
    case round =>
      obtain ⟨j, rfl, hj, HR, hb⟩ := hrel
      have b3 := b2.trans (hb.mono b2.size)
      by_cases hlt : j < n
      · have hjL : j < Q.length := by have := unhide HL; omega
        obtain ⟨b, off, rfl, hbB, c0, c1, c2, c3, c4⟩ := unhide HC j hjL
        rw [← b3.cell (p := ⟨b, off + j * 5, none⟩) (by simp; omega)] at c0
        rw [← b3.cell (p := ⟨b, off + j * 5 + 1, none⟩) (by simp; omega)] at c1
        rw [← b3.cell (p := ⟨b, off + j * 5 + 2, none⟩) (by simp; omega)] at c2
        rw [← b3.cell (p := ⟨b, off + j * 5 + 3, none⟩) (by simp; omega)] at c3
        rw [← b3.cell (p := ⟨b, off + j * 5 + 4, none⟩) (by simp; omega)] at c4
        have hr := (unhide HR).trans (unhide HST j hjL)
        rw [unhide HHT j hjL] at hr
        generalize hrest : atFrom x y (j + 1) (Q.drop (j + 1)) = rest at hr
        have HREST := hide hrest
        have hx0 : (0 : Int) ≤ (j : Int) := by omega
        have hx1 : (j : Int) < (n : Int) := by omega
        have hx2 : (n : Int) ≤ 9223372036854775807 := by have := unhide HN; omega
        have HBN : Hid (Below w2.heap.size w2 (wr.alloc (Obj.cells #[Value.int .i64 Q[j].A, Value.int .i64 Q[j].B, Value.int .i64 Q[j].W1, Value.int .i64 Q[j].W2, Value.int .i64 Q[j].W3] 76))) := hb.alloc hb.size _
        have HBW : Hid (Below w.heap.size w (wr.alloc (Obj.cells #[Value.int .i64 Q[j].A, Value.int .i64 Q[j].B, Value.int .i64 Q[j].W1, Value.int .i64 Q[j].W2, Value.int .i64 Q[j].W3] 76))) := b3.alloc b3.size _
        generalize Q[j] = q at c0 c1 c2 c3 c4 hr HBN HBW
        obtain ⟨y0, y1, y2, y3, y4⟩ := q
        simp only at c0 c1 c2 c3 c4 hr HBN HBW
        clear hrest HR hb b3 b2 b1
        by_cases hxy : x ≤ y
        · rw [Int.min_eq_left hxy] at hmn
          rw [Int.max_eq_right hxy] at hmx
          subst hmn hmx
          cases t0 : (y0 == mn) <;> cases t1 : (y1 == mx)
          all_goals
            rw [t0, t1] at hr
            simp only [Bool.and_true, Bool.and_false, Bool.false_eq_true, if_true, if_false] at hr
            subst hr
            go_wp2
            first
              | (all_goals (go_ret; exact ⟨rfl, unhide HBW⟩))
              | (go_roundw
                 case rel => exact ⟨j + 1, by go_num, by omega, (by show _ = _; rw [unhide HREST]), unhide HBN⟩
                 case measure => simp [intOf]; omega)
        · rw [Int.min_eq_right (by omega)] at hmn
          rw [Int.max_eq_left (by omega)] at hmx
          subst hmn hmx
          have hyx : mn < mx := by omega
          cases t0 : (y0 == mn) <;> cases t1 : (y1 == mx)
          all_goals
            rw [t0, t1] at hr
            simp only [Bool.and_true, Bool.and_false, Bool.false_eq_true, if_true, if_false] at hr
            subst hr
            go_wp2
            first
              | (all_goals (go_ret; exact ⟨rfl, unhide HBW⟩))
              | (go_roundw
                 case rel => exact ⟨j + 1, by go_num, by omega, (by show _ = _; rw [unhide HREST]), unhide HBN⟩
                 case measure => simp [intOf]; omega)
      · obtain rfl : j = n := by omega
        have hr := (unhide HR).trans (unhide HEND)
        subst hr
        go_wp2
        go_ret
        exact ⟨rfl, b3⟩

end Gr
end Go.Proofs.Ytejfknkcakeakaa
