/-
  The contracts of the law's own helpers over lists of texts: markText, eqStringS, markStringS, heldStringS.
-/
import Derived.Test.YtbcefikjacjplagDoorDec
import Derived.Deep.QuietTactic
import Derived.BigQuiet
import Derived.Deep.RegionHeld3
namespace Go.Proofs.YtbcefikjacjplagDoor
open Go.RowKit

def strsV (L : List (List UInt8)) : List Value := L.map fun l => Value.string ⟨l.toArray⟩

theorem strsV_length (L : List (List UInt8)) : (strsV L).length = L.length := by simp [strsV]

theorem strsV_at (L : List (List UInt8)) (i : Nat) (h : i < L.length) : (strsV L)[i]? = some (.string ⟨(L[i]'h).toArray⟩) := by
  simp [strsV, h]

/-- What is owned is owned still, where nothing of the old world has turned. -/
theorem own_below {w w' : World} {B : Nat} {e : TypeId} {size : Nat} {v : Value} {n : Nat} {xs : List Value} (h : w.ownsRow B e size v n xs) (hb : Below w.heap.size w w') : w'.ownsRow B e size v n xs := by
  obtain ⟨h1, h2⟩ := h
  refine ⟨h1, ?_⟩
  rcases h2 with h2 | ⟨g, cap, cur, hv, hg, hh, r⟩
  · exact Or.inl h2
  · have hlt : g < w.heap.size := by
      rcases Nat.lt_or_ge g w.heap.size with h3 | h3
      · exact h3
      · rw [Array.getElem?_eq_none h3] at hh; cases hh
    exact Or.inr ⟨g, cap, cur, hv, hg, by rw [hb.block g hlt]; exact hh, r⟩

/-- What is owned below B is owned still, where nothing below B has turned. -/
theorem own_under {w w' : World} {B C : Nat} {e : TypeId} {size : Nat} {v : Value} {n : Nat} {xs : List Value} (h : w.ownsRow B e size v n xs) (hv : ∀ g, v.ownBlock = some g → g < C) (hb : Below C w w') : w'.ownsRow B e size v n xs := by
  obtain ⟨h1, h2⟩ := h
  refine ⟨h1, ?_⟩
  rcases h2 with h2 | ⟨g, cap, cur, rfl, hg, hh, r⟩
  · exact Or.inl h2
  · exact Or.inr ⟨g, cap, cur, rfl, hg, by rw [hb.block g (hv g rfl)]; exact hh, r⟩

def mtext (k : Nat) : List UInt8 := 109 :: digs k
def marks (m n : Nat) : List (List UInt8) := (List.range n).map fun j => mtext (m + j)

theorem marks_length (m n : Nat) : (marks m n).length = n := by simp [marks]
theorem marks_at (m n i : Nat) (h : i < n) : (marks m n)[i]'(by rw [marks_length]; exact h) = mtext (m + i) := by simp [marks]

set_option maxRecDepth 100000 in
set_option maxHeartbeats 1000000 in
theorem markText_pos (u : Nat) (h0 : 0 < u) (h1 : u ≤ 1000000000000) (w : World) :
    Calls Tryd.prog 21 #[.int .i64 (u : Int)] w fun e w' => e = .returned (.string ⟨(mtext u).toArray⟩) ∧ Below w.heap.size w w' := by
  have hle : ¬ (u : Int) ≤ 0 := by omega
  go_enter Tryd.func21, Tryd.ntmps21
  go_wp2_with fail
  go_loopw [0, 3] (fun a s wr => ∃ (v : Nat) (acc : List UInt8), a = .int .i64 (v : Int) ∧ s = .string ⟨acc.toArray⟩ ∧ v ≤ u ∧ digs v ++ acc = digs u ∧ Below w.heap.size w wr)
    (fun a _ _ => (intOf a).toNat)
  case atStart => exact ⟨u, [], rfl, rfl, Nat.le_refl _, by simp, Below.refl _ _⟩
  case round =>
    obtain ⟨v, acc, rfl, rfl, hvu, hd, hb⟩ := hrel
    have hal := acc_len hd (by omega)
    have HD := hide hd
    clear hd
    have hbs := hb.size
    by_cases hv : v = 0
    · subst hv
      have e109 : (ByteArray.mk #[109] ++ ByteArray.mk acc.toArray) = ByteArray.mk (109 :: acc).toArray := ByteArray.mk_append_mk [109] acc
      go_wp2
      go_ret
      rw [mtext, ← unhide HD]
      exact ⟨congrArg (fun t => Ending.returned (Value.string t)) e109, hb⟩
    · obtain ⟨c, hc⟩ : ∃ c, c = UInt8.ofNat (48 + v % 10) := ⟨_, rfl⟩
      have hcv := convert_one (P := Tryd.prog) wr 33 9 5 c (48 + (v : Int) % 10) (by rw [hc, toNat_ofNat_small _ (by omega)]; omega) Tryd.underlying33 Tryd.underlying5 Tryd.underlying9
      have HC := hide hc
      clear hc
      have hv0 : (0 : Int) < (v : Int) := by omega
      go_wp2
      go_roundw
      case rel =>
        refine ⟨v / 10, c :: acc, by go_num, ?_, by omega, ?_, hb.alloc hbs _⟩
        · exact congrArg Value.string (ByteArray.mk_append_mk [c] acc)
        · rw [← unhide HD, digs_step (show 0 < v by omega), unhide HC]
          simp
      case measure => simp [intOf]; omega

theorem eq_empty (a b : Option Addr) (c d : Nat) (w : World) :
    Calls Tryd.prog 12 #[.slice a 0 c, .slice b 0 d] w fun e w' => e = .returned (.bool true) ∧ ∃ k, w' = w.drewN k := by
  go_enter Tryd.func12, Tryd.ntmps12
  go_wp2_with fail
  go_loop [5] (fun i => i = .int .i64 0) (fun _ => 0)
  case atStart => rfl
  case round =>
    subst hrel
    go_wp2
    go_ret
    exact ⟨rfl, 0, rfl⟩

set_option maxRecDepth 100000 in
set_option maxHeartbeats 1000000 in
theorem eq_some (g h c d : Nat) (B C : Nat) (L : List (List UInt8)) (hL : L.length ≤ 100000) (w : World)
    (ho : w.ownsRow B 9 1 (.slice (some ⟨g, 0, none⟩) L.length c) L.length (strsV L)) (hp : w.ownsRow C 9 1 (.slice (some ⟨h, 0, none⟩) L.length d) L.length (strsV L)) :
    Calls Tryd.prog 12 #[.slice (some ⟨g, 0, none⟩) L.length c, .slice (some ⟨h, 0, none⟩) L.length d] w fun e w' => e = .returned (.bool true) ∧ ∃ k, w' = w.drewN k := by
  have HO := hide (fun i (hi : i < L.length) => (ho.cellAt i (by omega)).trans (strsV_at L i hi))
  have HP := hide (fun i (hi : i < L.length) => (hp.cellAt i (by omega)).trans (strsV_at L i hi))
  clear ho hp
  go_enter Tryd.func12, Tryd.ntmps12
  go_wp2_with fail
  go_loopw [5] (fun a5 wr => ∃ i k : Nat, a5 = .int .i64 i ∧ i ≤ L.length ∧ wr = w.drewN k) (fun a5 _ => L.length - (intOf a5).toNat)
  case atStart => exact ⟨0, 0, rfl, Nat.zero_le _, rfl⟩
  case round =>
    obtain ⟨i, k, rfl, hi, rfl⟩ := hrel
    by_cases hlt : i < L.length
    · have c1 := unhide HO i hlt
      have c2 := unhide HP i hlt
      have hx0 : (0 : Int) ≤ (i : Int) := by omega
      have hx1 : (i : Int) < (L.length : Int) := by omega
      go_wp2_with fail
      go_quiet (fail)
      go_wp2
      go_roundw
      case rel => exact ⟨i + 1, _, by go_num, by omega, rfl⟩
      case measure => simp [intOf]; omega
    · go_wp2
      go_ret
      exact ⟨rfl, k, rfl⟩

theorem own_slice {w : World} {B e n : Nat} {v : Value} {xs : List Value} (h : w.ownsRow B e 1 v n xs) : ∃ a c, v = .slice a n c ∧ (0 < n → ∃ g, a = some ⟨g, 0, none⟩) := by
  rcases h.2 with ⟨rfl, rfl⟩ | ⟨g, cap, cur, rfl, _⟩
  · exact ⟨_, _, rfl, fun h => by omega⟩
  · exact ⟨_, _, rfl, fun _ => ⟨g, rfl⟩⟩

/-- Two lists of texts that hold the same are told alike. -/
theorem eq_same {B C : Nat} {v u : Value} (L : List (List UInt8)) (hL : L.length ≤ 100000) (w : World)
    (ho : w.ownsRow B 9 1 v L.length (strsV L)) (hp : w.ownsRow C 9 1 u L.length (strsV L)) :
    Calls Tryd.prog 12 #[v, u] w fun e w' => e = .returned (.bool true) ∧ Below w.heap.size w w' := by
  obtain ⟨a, c, rfl, ha⟩ := own_slice ho
  obtain ⟨b, d, rfl, hb⟩ := own_slice hp
  by_cases h0 : L.length = 0
  · rw [h0]
    refine (eq_empty a b c d w).mono ?_
    rintro e w' ⟨rfl, k, rfl⟩
    exact ⟨rfl, below_drewN (Below.refl _ _) _⟩
  · obtain ⟨g, rfl⟩ := ha (by omega)
    obtain ⟨h, rfl⟩ := hb (by omega)
    refine (eq_some g h c d B C L hL w ho hp).mono ?_
    rintro e w' ⟨rfl, k, rfl⟩
    exact ⟨rfl, below_drewN (Below.refl _ _) _⟩

theorem mark_empty (a : Option Addr) (c m : Nat) (w : World) :
    Calls Tryd.prog 13 #[.slice a 0 c, .int .i64 (m : Int)] w fun e w' => e = .returned (.int .i64 (m : Int)) ∧ w' = w := by
  go_enter Tryd.func13, Tryd.ntmps13
  go_wp2_with fail
  go_loop [1, 5] (fun k i => i = .int .i64 0 ∧ k = .int .i64 (m : Int)) (fun _ _ => 0)
  case atStart => exact ⟨rfl, rfl⟩
  case round =>
    obtain ⟨rfl, rfl⟩ := hrel
    go_wp2
    go_ret
    exact ⟨rfl, rfl⟩

/-- The first i texts of L are marks. -/
def marked (m i : Nat) (L : List (List UInt8)) : List (List UInt8) := marks m i ++ L.drop i

theorem marked_zero (m : Nat) (L : List (List UInt8)) : marked m 0 L = L := by simp [marked, marks]
theorem marked_all (m : Nat) (L : List (List UInt8)) : marked m L.length L = marks m L.length := by simp [marked]
theorem marked_length (m i : Nat) (L : List (List UInt8)) (h : i ≤ L.length) : (marked m i L).length = L.length := by
  simp [marked, marks_length]; omega
theorem marked_step (m i : Nat) (L : List (List UInt8)) (h : i < L.length) : (strsV (marked m i L)).set i (.string ⟨(mtext (m + i)).toArray⟩) = strsV (marked m (i + 1) L) := by
  unfold marked strsV
  rw [List.map_append, List.map_append, List.set_append_right _ _ (by simp [marks_length])]
  have e : (marks m (i + 1)) = marks m i ++ [mtext (m + i)] := by simp [marks, List.range_succ]
  rw [e, List.map_append]
  have hd : L.drop i = L[i] :: L.drop (i + 1) := List.drop_eq_getElem_cons h
  rw [hd]
  simp only [List.map_cons, List.map_nil, List.length_map, marks_length, Nat.sub_self, List.set_cons_zero, List.append_assoc, List.cons_append, List.nil_append]

set_option maxRecDepth 100000 in
set_option maxHeartbeats 1000000 in
theorem mark_some (g c m B : Nat) (L : List (List UInt8)) (hL : L.length ≤ 100000) (hm0 : 0 < m) (hm : m ≤ 100000) (w : World) (hB : B ≤ w.heap.size)
    (ho : w.ownsRow B 9 1 (.slice (some ⟨g, 0, none⟩) L.length c) L.length (strsV L)) :
    Calls Tryd.prog 13 #[.slice (some ⟨g, 0, none⟩) L.length c, .int .i64 (m : Int)] w fun e w' => e = .returned (.int .i64 ((m : Int) + (L.length : Int))) ∧
      w'.ownsRow B 9 1 (.slice (some ⟨g, 0, none⟩) L.length c) L.length (strsV (marks m L.length)) ∧ Below B w w' := by
  have hgB : B ≤ g := (ho.lt g rfl).1
  go_enter Tryd.func13, Tryd.ntmps13
  go_wp2_with fail
  go_loopw [1, 5] (fun a1 a5 wr => ∃ i : Nat, a1 = .int .i64 ((m : Int) + (i : Int)) ∧ a5 = .int .i64 i ∧ i ≤ L.length ∧ wr.ownsRow B 9 1 (.slice (some ⟨g, 0, none⟩) L.length c) L.length (strsV (marked m i L)) ∧ Below B w wr)
    (fun _ a5 _ => L.length - (intOf a5).toNat)
  case atStart => exact ⟨0, by simp, rfl, Nat.zero_le _, by rw [marked_zero]; exact ho, Below.refl _ _⟩
  case round =>
    obtain ⟨i, rfl, rfl, hi, hown, hb⟩ := hrel
    have hbs := hb.size
    by_cases hlt : i < L.length
    · have hx0 : (0 : Int) ≤ (i : Int) := by omega
      have hx1 : (i : Int) < (L.length : Int) := by omega
      have hc0 := markText_pos (m + i) (by omega) (by omega)
      rw [Int.natCast_add] at hc0
      have HC := hide hc0
      have HS := hide (fun (w2 : World) (h2 : Below wr.heap.size wr w2) => (own_below hown h2).stored i (.string ⟨(mtext (m + i)).toArray⟩))
      have HF := hide (fun (w2 : World) (h2 : Below wr.heap.size wr w2) => (own_below hown h2).frozenAt i)
      have HCe := hide (fun (w2 : World) (h2 : Below wr.heap.size wr w2) => ((own_below hown h2).cellAt i (by omega)).trans (strsV_at _ i (by rw [marked_length _ _ _ hi]; exact hlt)))
      clear hc0 hown
      go_wp2_with fail
      refine (unhide HC _).mono ?_
      rintro e w2 ⟨rfl, hb2⟩
      have hfz := unhide HF w2 hb2
      have hce := unhide HCe w2 hb2
      obtain ⟨hst, hgr⟩ := unhide HS w2 hb2
      rw [marked_step m i L hlt] at hst
      have hb3 : Below B w (w2.setCell ⟨g, i, none⟩ (.string ⟨(mtext (m + i)).toArray⟩)) := (hb.trans (hb2.mono (by omega))).setCell (p := ⟨g, i, none⟩) hgB _
      clear hgr
      have HST := hide hst
      clear hst
      go_wp2
      go_roundw
      case rel => exact ⟨i + 1, by go_num, by go_num, by omega, unhide HST, hb3⟩
      case measure => simp [intOf]; omega
    · obtain rfl : i = L.length := by omega
      rw [marked_all] at hown
      have HO := hide hown
      clear hown
      go_wp2
      go_ret
      exact ⟨rfl, unhide HO, hb⟩

/-- A list of texts is marked: what it holds now; what lies below B is as it was. -/
theorem mark_any {B : Nat} {v : Value} (m : Nat) (L : List (List UInt8)) (hL : L.length ≤ 100000) (hm0 : 0 < m) (hm : m ≤ 100000) (w : World) (hB : B ≤ w.heap.size)
    (ho : w.ownsRow B 9 1 v L.length (strsV L)) :
    Calls Tryd.prog 13 #[v, .int .i64 (m : Int)] w fun e w' => e = .returned (.int .i64 ((m : Int) + (L.length : Int))) ∧ w'.ownsRow B 9 1 v L.length (strsV (marks m L.length)) ∧ Below B w w' := by
  obtain ⟨a, c, rfl, ha⟩ := own_slice ho
  by_cases h0 : L.length = 0
  · obtain rfl : L = [] := List.length_eq_zero_iff.1 h0
    refine (mark_empty a c m w).mono ?_
    rintro e w' ⟨rfl, rfl⟩
    exact ⟨by simp, ho, Below.refl _ _⟩
  · obtain ⟨g, rfl⟩ := ha (by omega)
    exact mark_some g c m B L hL hm0 hm w hB ho

theorem held_empty (a : Option Addr) (c m : Nat) (w : World) :
    Calls Tryd.prog 14 #[.slice a 0 c, .int .i64 (m : Int)] w fun e w' => e = .returned (.int .i64 (m : Int)) ∧ w' = w := by
  go_enter Tryd.func14, Tryd.ntmps14
  go_wp2_with fail
  go_loop [1, 5] (fun k i => i = .int .i64 0 ∧ k = .int .i64 (m : Int)) (fun _ _ => 0)
  case atStart => exact ⟨rfl, rfl⟩
  case round =>
    obtain ⟨rfl, rfl⟩ := hrel
    go_wp2
    go_ret
    exact ⟨rfl, rfl⟩

set_option maxRecDepth 100000 in
set_option maxHeartbeats 1000000 in
theorem held_some (g c m B n : Nat) (hn : n ≤ 100000) (hm0 : 0 < m) (hm : m ≤ 100000) (w : World)
    (ho : w.ownsRow B 9 1 (.slice (some ⟨g, 0, none⟩) n c) n (strsV (marks m n))) :
    Calls Tryd.prog 14 #[.slice (some ⟨g, 0, none⟩) n c, .int .i64 (m : Int)] w fun e w' => e = .returned (.int .i64 ((m : Int) + (n : Int))) ∧ Below w.heap.size w w' := by
  have hgl : g < w.heap.size := (ho.lt g rfl).2
  have HO := hide ho
  clear ho
  go_enter Tryd.func14, Tryd.ntmps14
  go_wp2_with fail
  go_loopw [1, 5] (fun a1 a5 wr => ∃ i : Nat, a1 = .int .i64 ((m : Int) + (i : Int)) ∧ a5 = .int .i64 i ∧ i ≤ n ∧ Below w.heap.size w wr)
    (fun _ a5 _ => n - (intOf a5).toNat)
  case atStart => exact ⟨0, by simp, rfl, Nat.zero_le _, Below.refl _ _⟩
  case round =>
    obtain ⟨i, rfl, rfl, hi, hb⟩ := hrel
    have hbs := hb.size
    by_cases hlt : i < n
    · have hx0 : (0 : Int) ≤ (i : Int) := by omega
      have hx1 : (i : Int) < (n : Int) := by omega
      have hc0 := markText_pos (m + i) (by omega) (by omega)
      rw [Int.natCast_add] at hc0
      have HC := hide hc0
      have hce : wr.cell? ⟨g, i, none⟩ = some (.string ⟨(mtext (m + i)).toArray⟩) := by
        rw [(own_below (unhide HO) hb).cellAt i (by omega), strsV_at _ i (by rw [marks_length]; exact hlt), marks_at m n i hlt]
      have hgw : g < wr.heap.size := by omega
      clear hc0
      go_wp2_with fail
      go_region_held3 (fun w' => w'.cell? ⟨g, i, none⟩ = some (.string ⟨(mtext (m + i)).toArray⟩)) (first | go_keep | (rw [hb2.cell (p := ⟨g, i, none⟩) (by simpa using hgw)]; go_keep))
        ((go_at_call 21; refine (unhide HC _).mono ?_; rintro e w2 ⟨rfl, hb2⟩))
      have hb3 : Below w.heap.size w w2 := hb.drew.trans (hb2.mono (by simpa using hbs))
      go_wp2
      go_roundw
      case rel => exact ⟨i + 1, by go_num, by go_num, by omega, hb3⟩
      case measure => simp [intOf]; omega
    · obtain rfl : i = n := by omega
      go_wp2
      go_ret
      exact ⟨rfl, hb⟩

/-- A list of texts that was marked is told as held. -/
theorem held_any {B : Nat} {v : Value} (m n : Nat) (hn : n ≤ 100000) (hm0 : 0 < m) (hm : m ≤ 100000) (w : World)
    (ho : w.ownsRow B 9 1 v n (strsV (marks m n))) :
    Calls Tryd.prog 14 #[v, .int .i64 (m : Int)] w fun e w' => e = .returned (.int .i64 ((m : Int) + (n : Int))) ∧ Below w.heap.size w w' := by
  obtain ⟨a, c, rfl, ha⟩ := own_slice ho
  by_cases h0 : n = 0
  · subst h0
    refine (held_empty a c m w).mono ?_
    rintro e w' ⟨rfl, rfl⟩
    exact ⟨by simp, Below.refl _ _⟩
  · obtain ⟨g, rfl⟩ := ha (by omega)
    exact held_some g c m B n hn hm0 hm w ho
end Go.Proofs.YtbcefikjacjplagDoor
