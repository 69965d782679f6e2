/-
  The specification's walk through a part, as mathematics: a list that grows while it is gone through; the parts one behind the other, in both programs' ways.
-/
import Derived.Test.YtejfknkcakeakaaLkM
namespace Go.Proofs.Ytejfknkcakeakaa
namespace Lk

theorem nodup_le9 : ∀ (n : Nat) (L : List Nat), L.Nodup → (∀ x ∈ L, x < n) → L.length ≤ n
  | 0, L, _, h => by
    cases L with
    | nil => exact Nat.le_refl _
    | cons x r => have := h x (by simp); omega
  | n + 1, L, hn, h => by
    by_cases hm : n ∈ L
    · have h1 := nodup_le9 n (L.erase n) (hn.erase n) (fun x hx => by
        have h2 := h x (List.mem_of_mem_erase hx)
        have h3 : x ≠ n := fun e => by subst e; exact hn.not_mem_erase hx
        omega)
      rw [List.length_erase_of_mem hm] at h1
      omega
    · have := nodup_le9 n L hn (fun x hx => by
        have h2 := h x hx
        have h3 : x ≠ n := fun e => by subst e; exact hm hx
        omega)
      omega

/-- A list that is grown from v: what stands ahead of i has been gone through, of the i-th one the ones in done. -/
structure Bfs (F : Nat → Nat → Bool) (f : Nat → Bool) (v i : Nat) (done : List Nat) (U : List Nat) : Prop where
  nd : U.Nodup
  own : v ∈ U
  some : ∀ x ∈ U, rch F f v x = true
  full : ∀ a (h : a < U.length), a < i → ∀ w, w < 9 → F U[a] w = true → f w = true → w ∈ U
  part : ∀ w ∈ done, f w = true → w ∈ U

theorem bfs0 (F : Nat → Nat → Bool) (f : Nat → Bool) (v : Nat) : Bfs F f v 0 [] [v] where
  nd := by simp
  own := by simp
  some := fun x hx => by
    have : x = v := by simpa using hx
    subst this
    exact rch_here _ _ _
  full := fun a _ h => absurd h (by omega)
  part := fun w h => by cases h

theorem Bfs.few {F : Nat → Nat → Bool} {f : Nat → Bool} {v i : Nat} {done U : List Nat} (hv : v < 9) (h : Bfs F f v i done U) : U.length ≤ 9 :=
  nodup_le9 9 U h.nd (fun x hx => rch_lt hv (h.some x hx))

theorem bfs_skip {F : Nat → Nat → Bool} {f : Nat → Bool} {v i : Nat} {done U : List Nat} (h : Bfs F f v i done U) (x : Nat) (hx : x ∈ U ∨ f x = false) : Bfs F f v i (done ++ [x]) U where
  nd := h.nd
  own := h.own
  some := h.some
  full := h.full
  part := fun w hw hf => by
    rcases List.mem_append.1 hw with hw | hw
    · exact h.part w hw hf
    · have : w = x := by simpa using hw
      subst this
      rcases hx with hx | hx
      · exact hx
      · rw [hx] at hf; cases hf

theorem bfs_add {F : Nat → Nat → Bool} {f : Nat → Bool} {v i : Nat} {done U : List Nat} (hv : v < 9) (h : Bfs F f v i done U) (hi : i < U.length) (x : Nat) (hx9 : x < 9) (hF : F U[i] x = true) (hn : x ∉ U) (hf : f x = true) : Bfs F f v i (done ++ [x]) (U ++ [x]) where
  nd := by
    rw [List.nodup_append]
    exact ⟨h.nd, by simp, fun a ha b hb e => by
      have : b = x := by simpa using hb
      subst this
      exact hn (e ▸ ha)⟩
  own := List.mem_append_left _ h.own
  some := fun y hy => by
    rcases List.mem_append.1 hy with hy | hy
    · exact h.some y hy
    · have : y = x := by simpa using hy
      subst this
      have h1 := h.some U[i] (List.getElem_mem hi)
      exact rch_step hv h1 (rch_lt hv h1) hx9 hF hf
  full := fun a ha hai w hw hFw hfw => by
    have ha' : a < U.length := by omega
    rw [List.getElem_append_left ha'] at hFw
    exact List.mem_append_left _ (h.full a ha' hai w hw hFw hfw)
  part := fun w hw hfw => by
    rcases List.mem_append.1 hw with hw | hw
    · exact List.mem_append_left _ (h.part w hw hfw)
    · exact List.mem_append_right _ hw

theorem bfs_next {F : Nat → Nat → Bool} {f : Nat → Bool} {v i : Nat} {done U : List Nat} (h : Bfs F f v i done U) (hi : i < U.length) (hd : ∀ w, w < 9 → F U[i] w = true → f w = true → w ∈ done) : Bfs F f v (i + 1) [] U where
  nd := h.nd
  own := h.own
  some := h.some
  full := fun a ha hai w hw hFw hfw => by
    by_cases e : a = i
    · subst e; exact h.part w (hd w hw hFw hfw) hfw
    · exact h.full a ha (by omega) w hw hFw hfw
  part := fun w hw => by cases hw

theorem bfs_end {F : Nat → Nat → Bool} {f : Nat → Bool} {v : Nat} {U : List Nat} (hv : v < 9) (h : Bfs F f v U.length [] U) (x : Nat) : decide (x ∈ U) = rch F f v x := by
  cases hr : rch F f v x
  · rw [decide_eq_false]
    intro hx
    rw [h.some x hx] at hr
    cases hr
  · rw [decide_eq_true]
    have h1 := (rch_iff hv x).1 hr
    clear hr
    induction h1 with
    | here => exact h.own
    | @step u w _ hu hw hF hf ih =>
      obtain ⟨a, ha, rfl⟩ := List.mem_iff_getElem.1 ih
      exact h.full a ha ha w hw hF hf

/-- The parts as the specification finds them: each vertex asks whether a part ahead has it. -/
def prtsS (F : Nat → Nat → Bool) (f : Nat → Bool) : List Nat → (Nat → Bool) → List (Nat → Bool)
  | [], _ => []
  | v :: r, D => if (f v && !D v) = true then rch F f v :: prtsS F f r (fun j => D j || rch F f v j) else prtsS F f r D

theorem prtsS_in {F : Nat → Nat → Bool} {f : Nat → Bool} {v : Nat} {r : List Nat} {D : Nat → Bool} (h : (f v && !D v) = true) : prtsS F f (v :: r) D = rch F f v :: prtsS F f r (fun j => D j || rch F f v j) := by
  rw [prtsS, if_pos h]
theorem prtsS_out {F : Nat → Nat → Bool} {f : Nat → Bool} {v : Nat} {r : List Nat} {D : Nat → Bool} (h : (f v && !D v) = false) : prtsS F f (v :: r) D = prtsS F f r D := by
  rw [prtsS, if_neg (by rw [h]; simp)]

/-- From outside of a closed set one does not come in. -/
theorem rch_less {F : Nat → Nat → Bool} {f D : Nat → Bool} (hs : ∀ u w, F u w = F w u) (hD : ∀ u w, u < 9 → w < 9 → D u = true → F u w = true → f w = true → D w = true) {v : Nat} (hv : v < 9) (hf : f v = true) (hn : D v = false) :
    rch F (fun j => f j && !D j) v = rch F f v := by
  funext x
  cases hr : rch F f v x
  · cases hq : rch F (fun j => f j && !D j) v x
    · rfl
    · have h1 := (rch_iff hv x).1 hq
      rw [(rch_iff hv x).2 (h1.mono (fun j hj => by simp at hj; exact hj.1))] at hr
      cases hr
  · have h1 := (rch_iff hv x).1 hr
    have h2 : Rch F (fun j => f j && !D j) v x ∧ f x = true ∧ D x = false := by
      clear hr
      induction h1 with
      | here => exact ⟨.here, hf, hn⟩
      | @step u w _ hu hw hF hfw ih =>
        have hw0 : D w = false := by
          cases hd : D w
          · rfl
          · have := hD w u hw hu hd (by rw [hs]; exact hF) ih.2.1
            rw [ih.2.2] at this
            cases this
        exact ⟨ih.1.step hu hw hF (by simp [hfw, hw0]), hfw, hw0⟩
    exact (rch_iff hv x).2 h2.1

theorem prts_same {F : Nat → Nat → Bool} {f : Nat → Bool} (hs : ∀ u w, F u w = F w u) : ∀ (L : List Nat) (D : Nat → Bool), (∀ v ∈ L, v < 9) → (∀ u w, u < 9 → w < 9 → D u = true → F u w = true → f w = true → D w = true) → prtsS F f L D = prts F L (fun j => f j && !D j)
  | [], _, _, _ => rfl
  | v :: r, D, hL, hD => by
    have hv := hL v List.mem_cons_self
    cases h : (f v && !D v)
    · rw [prtsS_out h, prts_out h]
      exact prts_same hs r D (fun x hx => hL x (List.mem_cons_of_mem _ hx)) hD
    · have h2 : f v = true ∧ D v = false := by simpa using h
      have e := rch_less hs hD hv h2.1 h2.2
      rw [prtsS_in h, prts_in (f := fun j => f j && !D j) h, e]
      congr 1
      have hD2 : ∀ u w, u < 9 → w < 9 → (D u || rch F f v u) = true → F u w = true → f w = true → (D w || rch F f v w) = true := by
        intro u w hu hw hd hF hf
        rw [Bool.or_eq_true] at hd ⊢
        rcases hd with hd | hd
        · exact .inl (hD u w hu hw hd hF hf)
        · exact .inr (rch_step hv hd hu hw hF hf)
      rw [prts_same hs r (fun j => D j || rch F f v j) (fun x hx => hL x (List.mem_cons_of_mem _ hx)) hD2]
      congr 1
      funext j
      cases f j <;> cases D j <;> cases rch F f v j <;> rfl

/-- Vertices that are not left tell no part. -/
theorem prts_none (F : Nat → Nat → Bool) : ∀ (L : List Nat) (f : Nat → Bool), (∀ v ∈ L, f v = false) → prts F L f = []
  | [], _, _ => rfl
  | v :: r, f, h => by rw [prts_out (h v List.mem_cons_self)]; exact prts_none F r f (fun x hx => h x (List.mem_cons_of_mem _ hx))

theorem prts_app (F : Nat → Nat → Bool) : ∀ (L M : List Nat) (f : Nat → Bool), (∀ v ∈ M, f v = false) → prts F (L ++ M) f = prts F L f
  | [], M, f, h => by rw [List.nil_append, prts_none F M f h]; rfl
  | v :: r, M, f, h => by
    rw [List.cons_append]
    cases hq : f v
    · rw [prts_out hq, prts_out hq]
      exact prts_app F r M f h
    · rw [prts_in hq, prts_in hq]
      rw [prts_app F r M _ (fun x hx => by rw [h x hx]; rfl)]

end Lk
end Go.Proofs.Ytejfknkcakeakaa
