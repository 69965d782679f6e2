/-
  The specification's OddParts and PiecesOf; that both programs find the same parts.
-/
import Derived.Test.YtejfknkcakeakaaLkX
import Derived.Test.YtejfknkcakeakaaLkS
namespace Go.Proofs.Ytejfknkcakeakaa
namespace Lk
open Go.RowKit
open Gr (Kept EdgeI GrAt GBox below_new InOwn InAt own_below own_lower intsV intsAt_of_own info3 graphOk specGraph_any)

theorem nbF_is {Q : List EdgeI} (hq : Apart Q) : nbF Q = lnkF Q := by
  funext v u
  exact nb_is hq v u

theorem prts_mem (F : Nat → Nat → Bool) : ∀ (L : List Nat) (f : Nat → Bool), (∀ v ∈ L, v < 9) → ∀ p ∈ prts F L f, ∀ j, p j = true → f j = true
  | [], _, _, p, hp, _, _ => by cases hp
  | v :: r, f, hL, p, hp, j, hj => by
    have hv := hL v List.mem_cons_self
    cases h : f v
    · rw [prts_out h] at hp
      exact prts_mem F r f (fun x hx => hL x (List.mem_cons_of_mem _ hx)) p hp j hj
    · rw [prts_in h] at hp
      rcases List.mem_cons.1 hp with rfl | hp
      · by_cases e : j = v
        · subst e; exact h
        · exact rch_flag hv hj e
      · have := prts_mem F r _ (fun x hx => hL x (List.mem_cons_of_mem _ hx)) p hp j hj
        simp at this
        exact this.1

theorem rows_same {s : Int} {Q : List EdgeI} (hg : graphOk s Q = true) (K : List Int) : rowsS Q s.toNat K = (partsR s Q K).map fun p => setTo p 9 := by
  obtain ⟨s0, s9⟩ := ok_size hg
  obtain ⟨n, rfl⟩ := Int.eq_ofNat_of_zero_le s0
  rw [Int.toNat_natCast]
  have hq := apart_of hg
  unfold rowsS partsR
  rw [nbF_is hq, Int.toNat_natCast]
  have hn : n ≤ 9 := by omega
  have e1 := prts_same (F := lnkF Q) (f := leftF n K) (fun u w => lnkF_swap hq u w) (List.range' 0 n) (fun _ => false) (fun v hv => by have := List.mem_range'_1.1 hv; omega) (fun u w _ _ h => by cases h)
  have e2 : (fun j => leftF n K j && !(fun _ => false) j) = leftF n K := by funext j; simp
  rw [e1, e2]
  have e3 : List.range' 0 9 = List.range' 0 n ++ List.range' n (9 - n) := by
    have := List.range'_append_1 (s := 0) (m := n) (n := 9 - n)
    rw [show 9 = n + (9 - n) by omega, ← this]
    simp
  rw [e3, prts_app (lnkF Q) (List.range' 0 n) (List.range' n (9 - n)) (leftF n K) (fun v hv => by
    have := List.mem_range'_1.1 hv
    cases h : leftF n K v
    · rfl
    · have := left_lt h; omega)]
  refine List.map_congr_left (fun p hp => ?_)
  have hm := prts_mem (lnkF Q) (List.range' 0 n) (leftF n K) (fun v hv => by have := List.mem_range'_1.1 hv; omega) p hp
  obtain ⟨d, hd⟩ : ∃ d, 9 = n + d := ⟨9 - n, by omega⟩
  rw [hd, setTo_low p n d (fun j h _ => by
    cases hj : p j
    · rfl
    · have := left_lt (hm j hj); omega)]

/-- How many rows are of an odd length. -/
def oddL (G : List (List Int)) : Nat := (G.map fun r => r.length % 2).sum

theorem oddL_next (G : List (List Int)) (k : Nat) (h : k < G.length) : oddL (G.take (k + 1)) = oddL (G.take k) + G[k].length % 2 := by
  unfold oddL
  rw [List.take_succ_eq_append_getElem h, List.map_append, List.sum_append]
  simp

theorem oddL_le : ∀ (G : List (List Int)), oddL G ≤ G.length
  | [] => by simp [oddL]
  | p :: r => by
    have := oddL_le r
    unfold oddL at *
    simp only [List.map_cons, List.sum_cons, List.length_cons]
    omega

theorem odd_same (Ps : List (Nat → Bool)) : oddL (Ps.map fun p => setTo p 9) = oddN Ps := by
  unfold oddL oddN
  rw [List.map_map]
  rfl

theorem rowsS_length (Q : List EdgeI) (n : Nat) (K : List Int) : (rowsS Q n K).length ≤ n := by
  unfold rowsS
  rw [List.length_map]
  have := prtsS_length (nbF Q) (leftF n K) (List.range' 0 n) (fun _ => false)
  simpa using this

theorem rowsS_row (Q : List EdgeI) (n : Nat) (K : List Int) : ∀ r ∈ rowsS Q n K, r.length ≤ n := fun r hr => by
  unfold rowsS at hr
  obtain ⟨p, _, rfl⟩ := List.mem_map.1 hr
  exact setTo_length _ _

set_option maxRecDepth 100000 in
set_option maxHeartbeats 4000000 in
theorem oddS_any (v : Value) (B n : Nat) (Q : List EdgeI) (u : Value) (K : List Int) (h1 : Q.length ≤ 1048576) (h2 : K.length ≤ 1048576) (hn : n ≤ 9) (w : World) (hB : B ≤ w.heap.size) (hv : GrAt w v B (n : Int) Q) (hu : InAt w u B K) :
    Calls Try.prog 54 #[v, u] w fun e w' => e = .returned (.int .i64 (oddL (rowsS Q n K) : Int)) ∧ Below w.heap.size w w' := by
  have PS := hide (fun w1 (hb : Below w.heap.size w w1) => partsS_any v B n Q u K h1 h2 hn w1 (by have := hb.size; omega) (hv.below hb hB) (hu.below hb hB))
  have HGL := hide (rowsS_length Q n K)
  have HGR := hide (rowsS_row Q n K)
  obtain ⟨G, hG⟩ : ∃ G, G = rowsS Q n K := ⟨_, rfl⟩
  rw [← hG] at PS HGL HGR ⊢
  have HON := hide (fun k h => oddL_next G k h)
  have HOL := hide (fun k => oddL_le (G.take k))
  have HEND : Hid (oddL (G.take G.length) = oddL G) := by show _ = _; rw [List.take_length]
  obtain ⟨au, cu, rfl, _⟩ := hu
  obtain ⟨a, n', c, rfl, _⟩ := hv
  clear hG
  go_enter Try.func54, Try.ntmps54
  go_wp2_with fail
  obtain ⟨V1, hV1⟩ : ∃ W, W = w.alloc (Obj.cells #[Value.int .i64 (n : Int), Value.slice a n' c] 30) := ⟨_, rfl⟩
  rw [← hV1]
  have x1 : GBox V1 w.heap.size (n : Int) (.slice a n' c) := by rw [hV1]; exact GBox.new _ _ _
  have b1 : Below w.heap.size w V1 := by rw [hV1]; exact below_new _ _
  clear hV1
  refine (unhide PS V1 b1).mono ?_
  rintro e w2 ⟨⟨d, vs, C, rfl, hGr, _, _⟩, hb2⟩
  have b2 := b1.trans (hb2.mono b1.size)
  obtain ⟨A, cp, rfl⟩ := row_shape hGr.2.1
  have HR := hide hGr
  obtain ⟨m, hm⟩ : ∃ m, m = G.length := ⟨_, rfl⟩
  have HMM := hide hm
  rw [← hm] at HEND HGL ⊢
  have hm9 : m ≤ 9 := by have := unhide HGL; omega
  clear x1 b1 hb2 hGr hm PS
  go_wp2_with fail
  go_loopw [5, 7] (fun odd i wr => ∃ k : Nat, i = .int .i64 (k : Int) ∧ k ≤ m ∧ odd = .int .i64 (oddL (G.take k) : Int) ∧ wr = w2) (fun _ i _ => m - (intOf i).toNat)
  case atStart => exact ⟨0, rfl, Nat.zero_le _, rfl, rfl⟩
  case round =>
    obtain ⟨k, rfl, hk, rfl, rfl⟩ := hrel
    by_cases hlt : k < m
    · have hkG : k < G.length := by have := unhide HMM; omega
      have hgr := unhide HR
      have hkv : k < vs.length := by rw [hgr.1]; exact hkG
      have hown := hgr.2.1
      rw [← unhide HMM] at hown
      obtain ⟨g, c', hA, _, _⟩ := hown.form (by omega)
      simp at hA
      obtain ⟨rfl, rfl⟩ := hA
      obtain ⟨a1, c1, e1, _⟩ := intsAt_of_own (hgr.2.2 k hkv hkG).1
      have hc1 := hown.cellAt k (by omega)
      rw [List.getElem?_eq_getElem hkv, e1] at hc1
      have HOKN := hide (unhide HON k hkG)
      have hl9 := unhide HGR _ (List.getElem_mem hkG)
      have hol := unhide HOL k
      have htl : (G.take k).length ≤ 9 := by rw [List.length_take]; omega
      generalize G[k].length = lk at hc1 HOKN hl9
      have hki0 : (0 : Int) ≤ (k : Int) := by omega
      have hki1 : (k : Int) < (m : Int) := by omega
      clear hgr hown e1
      go_wp2_with fail
      exact ⟨⟨k + 1, by go_num, by omega, by rw [unhide HOKN]; simp, by first | rfl | trivial⟩, by simp [intOf]; omega⟩
    · obtain rfl : k = m := by omega
      have he := unhide HEND
      rw [he]
      go_wp2
      go_ret
      exact ⟨rfl, b2⟩

/-- What PiecesOf tells. -/
def piecesR (s : Int) (Q : List EdgeI) (K : List Int) : List (List Int) := if graphOk s Q = true then (partsR s Q K).map fun p => setTo p 9 else []

set_option maxRecDepth 100000 in
set_option maxHeartbeats 4000000 in
theorem specOdd_gen (B : Nat) (v : Value) (s : Int) (Q : List EdgeI) (u : Value) (K : List Int) (h1 : Q.length ≤ 1048576) (h2 : K.length ≤ 1048576) (w : World) (hB : B ≤ w.heap.size) (hv : GrAt w v B s Q) (hu : InAt w u B K) :
    Calls Try.prog 25 #[v, u] w fun e w' => e = .returned (.int .i64 (oddR s Q K)) ∧ Below w.heap.size w w' := by
  have OK := hide (fun w1 (hb : Below w.heap.size w w1) => specGraph_any v B s Q h1 w1 (by have := hb.size; omega) (hv.below hb hB))
  have OS : Hid (graphOk s Q = true → ∀ w1, Below w.heap.size w w1 → Calls Try.prog 54 #[v, u] w1 fun e w' => e = .returned (.int .i64 (oddR s Q K)) ∧ Below w1.heap.size w1 w') := fun hg w1 hb => by
    obtain ⟨s0, s9⟩ := ok_size hg
    obtain ⟨n, rfl⟩ := Int.eq_ofNat_of_zero_le s0
    have h9 := oddS_any v B n Q u K h1 h2 (by omega) w1 (by have := hb.size; omega) (hv.below hb hB) (hu.below hb hB)
    have e9 := rows_same hg K
    rw [Int.toNat_natCast] at e9
    rw [e9, odd_same] at h9
    have e8 : oddR (n : Int) Q K = (oddN (partsR (n : Int) Q K) : Int) := by unfold oddR; rw [if_pos hg]
    rw [e8]
    exact h9
  have HR0 : Hid (graphOk s Q = false → oddR s Q K = -1) := fun h => by unfold oddR; rw [h]; rfl
  obtain ⟨a, n, c, rfl, _⟩ := hv
  obtain ⟨au, cu, rfl, _⟩ := hu
  generalize oddR s Q K = V at OS HR0 ⊢
  generalize graphOk s Q = gk at OK OS HR0
  clear h1 h2
  go_enter Try.func25, Try.ntmps25
  go_wp2_with fail
  obtain ⟨V1, hV1⟩ : ∃ W, W = w.alloc (Obj.cells #[Value.int .i64 s, Value.slice a n c] 30) := ⟨_, rfl⟩
  rw [← hV1]
  have x1 : GBox V1 w.heap.size s (.slice a n c) := by rw [hV1]; exact GBox.new _ _ _
  have b1 : Below w.heap.size w V1 := by rw [hV1]; exact below_new _ _
  clear hV1
  refine (unhide OK V1 b1).mono ?_
  rintro e w2 ⟨rfl, hb2⟩
  have x2 := x1.below hb2
  have b2 := b1.trans (hb2.mono b1.size)
  obtain ⟨p0, p1⟩ := x2.cells
  clear hb2 x1 OK b1 x2
  cases gk
  · have hR := unhide HR0 rfl
    subst hR
    go_wp2
    go_ret
    exact ⟨rfl, b2⟩
  · have OS2 := hide (unhide OS rfl)
    clear HR0 OS
    go_wp2_with fail
    refine (unhide OS2 w2 b2).mono ?_
    rintro e w3 ⟨rfl, hb3⟩
    have b3 := b2.trans (hb3.mono b2.size)
    clear hb3
    go_wp2
    go_ret
    exact ⟨rfl, b3⟩

end Lk
end Go.Proofs.Ytejfknkcakeakaa
