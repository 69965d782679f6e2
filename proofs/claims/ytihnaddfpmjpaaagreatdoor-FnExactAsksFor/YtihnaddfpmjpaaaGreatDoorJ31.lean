/-
 GrRI1.
-/
import Derived.Test.YtihnaddfpmjpaaaGreatDoorJ23
import Derived.Test.YtihnaddfpmjpaaaGreatDoorJ18
import Derived.Test.YtihnaddfpmjpaaaGreatDoorJ30
namespace Go.Proofs.YtihnaddfpmjpaaaGreatDoor
namespace Gr
open Go.RowKit
def RdAt (w : World) (g : Nat) (t : ByteArray) (c : CS) : Prop := Blk w g #[.string t, .int .i64 (c.p : Int), .bool c.b] 194 ∧ c.p ≤ t.size
theorem RdAt.lt {w : World} {g : Nat} {t : ByteArray} {c : CS} (h : RdAt w g t c) : g < w.heap.size := h.1.lt
theorem RdAt.kept {S : Nat → Prop} {w w' : World} {g : Nat} {t : ByteArray} {c : CS} (h : RdAt w g t c) (hk : Kept S w w') (hS : ¬ S g) : RdAt w' g t c := ⟨h.1.kept hk hS, h.2⟩
theorem RdAt.below {w w' : World} {g : Nat} {t : ByteArray} {c : CS} (h : RdAt w g t c) (hb : Below w.heap.size w w') : RdAt w' g t c := ⟨h.1.below hb, h.2⟩
set_option maxRecDepth 100000 in
set_option maxHeartbeats 1000000 in
theorem fail_any (t : ByteArray) (_ht : t.size ≤ 1048576) (g : Nat) (c : CS) (w : World) (hc : RdAt w g t c) :
    Calls Tryz.prog 165 #[.pointer (some ⟨g, 0, none⟩)] w fun e w' => e = .returned (.tuple #[]) ∧ RdAt w' g t ⟨t.size, true⟩ ∧ Kept (fun k => k = g) w w' := by
  obtain ⟨hm, hp⟩ := hc
  have c0 := hm.cell 0 _ rfl
  have c1 := hm.cell 1 _ rfl
  have c2 := hm.cell 2 _ rfl
  have f1 := hm.froz 1
  have f2 := hm.froz 2
  have HS : Hid (Blk ((w.setCell ⟨g, 1, none⟩ (.int .i64 (t.size : Int))).setCell ⟨g, 2, none⟩ (.bool true)) g #[.string t, .int .i64 (t.size : Int), .bool true] 194) := (hm.set 1 _).set 2 _
  have HK : Hid (Kept (fun k => k = g) w ((w.setCell ⟨g, 1, none⟩ (.int .i64 (t.size : Int))).setCell ⟨g, 2, none⟩ (.bool true))) := Kept.trans (S := fun k => k = g) (Kept.set _ _ _ _ rfl) (Kept.set _ _ _ _ rfl)
  clear hm hp
  go_enter Tryz.func165, Tryz.ntmps165
  go_wp2
  go_end0
  exact ⟨rfl, ⟨unhide HS, Nat.le_refl _⟩, unhide HK⟩
set_option maxRecDepth 100000 in
set_option maxHeartbeats 1000000 in
theorem number_any (t : ByteArray) (ht : t.size ≤ 1048576) (g : Nat) (c : CS) (w : World) (hc : RdAt w g t c) :
    Calls Tryz.prog 164 #[.pointer (some ⟨g, 0, none⟩)] w fun e w' => e = .returned (.int .i64 (nm t c).1) ∧ RdAt w' g t (nm t c).2 ∧ Kept (fun k => k = g) w w' := by
  obtain ⟨hm, hp⟩ := hc
  obtain ⟨p, b⟩ := c
  simp only at hm hp
  have hg := hm.lt
  have RV := hide (fun w1 => implRead_any t (p : Int) (by omega) w1)
  have HM := hide hm
  have q0 : ∀ d : Grown w.heap.size w, d.w.cell? ⟨g, 0, none⟩ = some (.string t) := fun d => d.cell hg (hm.cell 0 _ rfl)
  have q1 : ∀ d : Grown w.heap.size w, d.w.cell? ⟨g, 1, none⟩ = some (.int .i64 (p : Int)) := fun d => d.cell hg (hm.cell 1 _ rfl)
  have HR : Hid (nm t ⟨p, b⟩ = match readA t (p : Int) with | none => (0, ⟨t.size, true⟩) | some x => ((x.1 : Int), ⟨x.2, b⟩)) := rfl
  have HBd : Hid (∀ x e, readA t (p : Int) = some (x, e) → x ≤ 1000000000 ∧ e ≤ t.size) := fun x e h => readA_bound h
  have FA := hide (fun w1 (hb1 : Below w.heap.size w w1) => fail_any t ht g ⟨p, b⟩ w1 ⟨hm.below hb1, hp⟩)
  generalize readA t (p : Int) = r at RV HR HBd
  generalize nm t ⟨p, b⟩ = R at HR
  clear hm
  cases r with
  | none =>
    have hR : R = (0, ⟨t.size, true⟩) := unhide HR
    subst hR
    have RV2 : Hid (∀ w1, Calls Tryz.prog 92 #[.string t, .int .i64 (p : Int)] w1 fun e w' => e = .returned (.tuple #[.int .i64 0, .int .i64 0, .bool false]) ∧ Below w1.heap.size w1 w') := RV
    clear HR HBd
    go_enter Tryz.func164, Tryz.ntmps164
    go_wp2_with fail
    refine wp_region_grown w.heap.size (by kernel_rfl) (by kernel_rfl) ?_
    repeat (go_big_quiet_step ((go_at_call 92; exact Calls.grown (Nat.le_refl _) (unhide RV2 _))))
    refine wpQuiet_nil ?_
    rintro w5 ⟨d5, rfl⟩
    obtain ⟨W5, hb5⟩ := d5
    dsimp only
    clear q0 q1
    go_wp2_with fail
    refine (unhide FA W5 hb5).mono ?_
    rintro e w6 ⟨rfl, h6, k6⟩
    have H6 := hide h6
    have K6 : Kept (fun k => k = g) w w6 := (Kept.of_below hb5).trans k6
    go_wp2
    go_ret
    exact ⟨rfl, unhide H6, K6⟩
  | some x =>
    obtain ⟨x, e⟩ := x
    obtain ⟨hx, he⟩ := unhide HBd x e rfl
    have RV2 : Hid (∀ w1, Calls Tryz.prog 92 #[.string t, .int .i64 (p : Int)] w1 fun u w' => u = .returned (.tuple #[.int .i64 (x : Int), .int .i64 (e : Int), .bool true]) ∧ Below w1.heap.size w1 w') := RV
    have hR : R = ((x : Int), ⟨e, b⟩) := unhide HR
    subst hR
    clear HBd HR
    go_enter Tryz.func164, Tryz.ntmps164
    go_wp2_with fail
    refine wp_region_grown w.heap.size (by kernel_rfl) (by kernel_rfl) ?_
    repeat (go_big_quiet_step ((go_at_call 92; exact Calls.grown (Nat.le_refl _) (unhide RV2 _))))
    refine wpQuiet_nil ?_
    rintro w5 ⟨d5, rfl⟩
    obtain ⟨W5, hb5⟩ := d5
    dsimp only
    clear q0 q1
    have m5 := (unhide HM).below hb5
    have k5 : Kept (fun k => k = g) w W5 := Kept.of_below hb5
    have f6 := m5.froz 1
    have p6 := m5.cell 1 _ rfl
    have HS1 : Hid (Blk (W5.setCell ⟨g, 1, none⟩ (.int .i64 (e : Int))) g #[.string t, .int .i64 (e : Int), .bool b] 194) := m5.set 1 _
    have HK1 : Hid (Kept (fun k => k = g) w (W5.setCell ⟨g, 1, none⟩ (.int .i64 (e : Int)))) := k5.trans (Kept.set _ _ _ _ rfl)
    clear m5 k5 hb5
    go_wp2
    go_ret
    exact ⟨rfl, ⟨unhide HS1, he⟩, unhide HK1⟩
set_option maxRecDepth 100000 in
set_option maxHeartbeats 1000000 in
theorem count_any (t : ByteArray) (ht : t.size ≤ 1048576) (g : Nat) (c : CS) (m : Int) (w : World) (hc : RdAt w g t c) :
    Calls Tryz.prog 148 #[.pointer (some ⟨g, 0, none⟩), .int .i64 m] w fun e w' => e = .returned (.int .i64 (rcnt t m c).1) ∧ RdAt w' g t (rcnt t m c).2 ∧ Kept (fun k => k = g) w w' := by
  have NA := hide (fun w1 => number_any t ht g c w1)
  have FA := hide (fun c w1 => fail_any t ht g c w1)
  have HR : Hid (rcnt t m c = if m < (nm t c).1 then (0, ⟨t.size, true⟩) else nm t c) := rfl
  generalize rcnt t m c = R at HR
  generalize nm t c = N at NA HR
  obtain ⟨n, c'⟩ := N
  simp only at NA HR
  have HC := hide hc
  clear hc
  by_cases hlt : m < n
  · have hR : R = (0, ⟨t.size, true⟩) := by rw [unhide HR, if_pos hlt]
    subst hR
    clear HR
    go_enter Tryz.func148, Tryz.ntmps148
    go_wp2_with fail
    refine (unhide NA w (unhide HC)).mono ?_
    rintro e w1 ⟨rfl, h1, k1⟩
    have H1 := hide h1
    clear h1
    go_wp2_with fail
    refine (unhide FA c' w1 (unhide H1)).mono ?_
    rintro e w2 ⟨rfl, h2, k2⟩
    have H2 := hide h2
    have K2 := k1.trans k2
    clear h2
    go_wp2
    go_ret
    exact ⟨rfl, unhide H2, K2⟩
  · have hR : R = (n, c') := by rw [unhide HR, if_neg hlt]
    subst hR
    clear HR
    go_enter Tryz.func148, Tryz.ntmps148
    go_wp2_with fail
    refine (unhide NA w (unhide HC)).mono ?_
    rintro e w1 ⟨rfl, h1, k1⟩
    have H1 := hide h1
    clear h1
    go_wp2
    go_ret
    exact ⟨rfl, unhide H1, k1⟩
theorem reader_types : (194 : Nat) ≠ 3 ∧ (194 : Nat) ≠ 106 ∧ (194 : Nat) ≠ 162 ∧ (194 : Nat) ≠ 164 ∧ (194 : Nat) ≠ 134 ∧ (194 : Nat) ≠ 35 ∧ (194 : Nat) ≠ 132 ∧ (194 : Nat) ≠ 206 := by decide
theorem RdAt.alien {w : World} {g : Nat} {t : ByteArray} {c : CS} (h : RdAt w g t c) {e : TypeId} (he : (194 : Nat) ≠ e) : ∀ k, k = g → Alien w k e := fun k hk => by subst hk; exact h.1.alien he
theorem Kept.trans_new {S T : Nat → Prop} {a b c : World} (h : Kept S a b) (k : Kept T b c) (hT : ∀ i, T i → a.heap.size ≤ i) : Kept S a c :=
  ⟨k.1.trans h.1, k.2.1.trans h.2.1, k.2.2.1.trans h.2.2.1, Nat.le_trans h.2.2.2.1 k.2.2.2.1, fun i hi hn => (k.2.2.2.2 i (Nat.lt_of_lt_of_le hi h.2.2.2.1) (fun ht => by have := hT i ht; omega)).trans (h.2.2.2.2 i hi hn)⟩
theorem one_num (x : Int) : ∀ u, u ∈ [Value.int .i64 x] → u.oneCell' = true := by
  intro u hu; simp at hu; subst hu; rfl
set_option maxRecDepth 100000 in
set_option maxHeartbeats 2000000 in
theorem numbers_any (t : ByteArray) (ht : t.size ≤ 1048576) (g : Nat) (c : CS) (n : Nat) (hn : n ≤ 1048576) (w : World) (hc : RdAt w g t c) :
    Calls Tryz.prog 150 #[.pointer (some ⟨g, 0, none⟩), .int .i64 (n : Int)] w fun e w' => (∃ d, e = .returned d ∧ InOwn w' w.heap.size d (nums t n c).1) ∧ RdAt w' g t (nums t n c).2 ∧ Kept (fun k => k = g) w w' := by
  obtain ⟨i0, hi0, hz0, hz1, hz2⟩ := info_parts info3
  obtain ⟨t3, _⟩ := reader_types
  have NA := hide (fun c w1 => number_any t ht g c w1)
  generalize hR : nums t n c = R
  have H0 : Hid (R.1 = [] ++ (nums t (n - 0) c).1 ∧ R.2 = (nums t (n - 0) c).2) := by show _ ∧ _; rw [← hR]; exact ⟨rfl, rfl⟩
  have HST : Hid (∀ j c, j < n → nums t (n - j) c = ((nm t c).1 :: (nums t (n - (j + 1)) (nm t c).2).1, (nums t (n - (j + 1)) (nm t c).2).2)) := fun j c h => by
    rw [show n - j = (n - (j + 1)) + 1 by omega]; rfl
  have HC := hide hc
  clear hc hR
  go_enter Tryz.func150, Tryz.ntmps150
  go_wp2_with fail
  go_loopw [5, 7] (fun v i wr => ∃ (j : Nat) (L : List Int) (c : CS), i = .int .i64 (j : Int) ∧ j ≤ n ∧ Hid (L.length = j) ∧ Hid (R.1 = L ++ (nums t (n - j) c).1 ∧ R.2 = (nums t (n - j) c).2) ∧ Hid (RdAt wr g t c) ∧ Hid (wr.ownsRow w.heap.size 3 1 v L.length (intsV L)) ∧ Kept (fun k => k = g) w wr) (fun _ i _ => n - (intOf i).toNat)
  case atStart => exact ⟨0, [], c, rfl, Nat.zero_le _, rfl, unhide H0, unhide HC, World.ownsRow_nil _ _ _ _, Kept.refl _ _⟩
  case round =>
    obtain ⟨j, L, c', rfl, hj, HL, HR, hw, ho, hk⟩ := hrel
    by_cases hlt : j < n
    · have hx1 : (j : Int) < (n : Int) := by omega
      have HN := hide (unhide HST j c' hlt)
      have N1 := hide (unhide NA c' wr (unhide hw))
      have hLn : L.length ≤ 1048576 := by have := unhide HL; omega
      generalize nm t c' = X at HN N1
      obtain ⟨x, c2⟩ := X
      simp only at HN N1
      go_wp2_with fail
      refine (unhide N1).mono ?_
      rintro e w1 ⟨rfl, h1, k1⟩
      have hown1 := k1.own_alien (unhide ho) ((unhide hw).alien t3)
      have K1 := hk.trans k1
      have hbs : w.heap.size ≤ w1.heap.size := K1.2.2.2.1
      have H1 := hide h1
      clear h1
      go_wp2_with (at_builtin; refine wpList_append_own _ rfl _ _ 24 rfl w.heap.size 3 i0 (.int .i64 0) 1 8 Tryz.underlying24 hi0 hz0 hz1 hz2 rfl (by decide) _ _ _ rfl (hown1.alloc _) ⟨w1.heap.size, 0, none⟩ 1 1 [.int .i64 x] rfl rfl (cell_one_new _ _ _) (one_num _) ?c3 ?c4 ?c5 ?_)
      case c3 => unfold maxLen; omega
      case c4 => omega
      case c5 => simp; omega
      intro v' w3 hown' hgrow _
      have kA : Kept (fun k => u5.ownBlock = some k) w1 w3 := (Kept.of_below (below_new w1 (Obj.cells #[.int .i64 x] 3))).trans (Kept.of_grown hgrow)
      have HW3 : Hid (RdAt w3 g t c2) := ⟨(unhide H1).1.kept_alien kA (own_alien hown1 t3.symm), (unhide H1).2⟩
      have K3 : Kept (fun k => k = g) w w3 := K1.trans_new kA (fun k hk => (hown1.lt k hk).1)
      have HO3 : Hid (w3.ownsRow w.heap.size 3 1 v' (L ++ [x]).length (intsV (L ++ [x]))) := by
        show World.ownsRow _ _ _ _ _ _ _
        simpa [intsV] using hown'
      clear hown1 hown' hgrow kA K1 k1
      go_wp2_with fail
      refine ⟨⟨j + 1, L ++ [x], c2, by go_num, by omega, ?_, ?_, unhide HW3, unhide HO3, K3⟩, by simp [intOf]; omega⟩
      · show (L ++ [x]).length = j + 1
        rw [List.length_append, unhide HL]; rfl
      · show _ ∧ _
        have := unhide HR
        rw [unhide HN] at this
        refine ⟨?_, this.2⟩
        rw [this.1, List.append_assoc]; rfl
    · obtain rfl : j = n := by omega
      have hx1 : ¬ (j : Int) < (j : Int) := by omega
      have hr := unhide HR
      rw [Nat.sub_self] at hr
      have e1 : R.1 = L := by rw [hr.1]; exact List.append_nil _
      have e2 : R.2 = c' := hr.2
      have HO2 : Hid (InOwn wr w.heap.size u5 R.1) := by rw [e1]; exact unhide ho
      have HW2 : Hid (RdAt wr g t R.2) := by rw [e2]; exact unhide hw
      clear e1 e2 hr
      go_wp2_with fail
      go_ret
      exact ⟨⟨_, rfl, unhide HO2⟩, unhide HW2, hk⟩
end Gr
end Go.Proofs.YtihnaddfpmjpaaaGreatDoor
