/-
  The contract of impl's linkTable.parts: a row of sets.
-/
import Derived.Test.YtejfknkcakeakaaLkP
namespace Go.Proofs.Ytejfknkcakeakaa
namespace Lk
open Go.RowKit
open Gr (Blk Kept below_new setMany setMany_all below_setCells own_below own_lower)

/-- The cells of some sets. -/
def setsV (Ps : List (Nat → Bool)) : List Value := Ps.flatMap fun p => (fl p).toList

theorem setsV_length (Ps : List (Nat → Bool)) : (setsV Ps).length = Ps.length * 9 := by
  induction Ps with
  | nil => rfl
  | cons p r ih => simp only [setsV, List.flatMap_cons, List.length_append, Array.length_toList, fl_size, List.length_cons] at ih ⊢; omega

theorem setsV_snoc (Ps : List (Nat → Bool)) (p : Nat → Bool) : setsV (Ps ++ [p]) = setsV Ps ++ (fl p).toList := by
  unfold setsV
  rw [List.flatMap_append]
  simp

theorem setsV_at : ∀ (Ps : List (Nat → Bool)) (k : Nat) (h : k < Ps.length) (j : Nat), j < 9 → (setsV Ps)[k * 9 + j]? = (fl Ps[k])[j]?
  | p :: r, 0, _, j, hj => by
    unfold setsV
    rw [List.flatMap_cons, List.getElem?_append_left (by simp [fl_size]; omega)]
    simp
  | p :: r, k + 1, h, j, hj => by
    unfold setsV
    rw [List.flatMap_cons, List.getElem?_append_right (by simp [fl_size]; omega)]
    have e : (k + 1) * 9 + j - (fl p).toList.length = k * 9 + j := by simp [fl_size]; omega
    rw [e]
    exact setsV_at r k (by simpa using h) j hj

/-- A row of sets that a call has made. -/
def StsOwn (w : World) (B : Nat) (v : Value) (Ps : List (Nat → Bool)) : Prop := w.ownsRow B 63 9 v Ps.length (setsV Ps)

theorem StsOwn.below {w w' : World} {B : Nat} {v : Value} {Ps : List (Nat → Bool)} (h : StsOwn w B v Ps) (hb : Below w.heap.size w w') : StsOwn w' B v Ps := own_below h hb
theorem StsOwn.lower {w : World} {B C : Nat} {v : Value} {Ps : List (Nat → Bool)} (h : StsOwn w B v Ps) (hC : C ≤ B) : StsOwn w C v Ps := own_lower hC h

theorem StsOwn.shape {w : World} {B : Nat} {v : Value} {Ps : List (Nat → Bool)} (h : StsOwn w B v Ps) : ∃ a c, v = .slice a Ps.length c := by
  rcases h.2 with ⟨rfl, h0⟩ | ⟨g, cap, cur, rfl, _⟩
  · exact ⟨none, 0, by rw [h0]⟩
  · exact ⟨_, _, rfl⟩

theorem infoV3 : (Try.prog.info? 63).map (fun i => (i.zero, i.size, i.bytes)) = some (some (.agg (fl fun _ => false)), 9, 9) := by kernel_rfl

theorem fl_ones (f : Nat → Bool) : ∀ u ∈ (fl f).toList, u.oneCell' = true := fun u hu => by
  have h := fl_one f
  rw [Array.all_eq_true_iff_forall_mem] at h
  exact h u (by simpa using hu)

theorem fl_nine (f : Nat → Bool) : ∃ b0 b1 b2 b3 b4 b5 b6 b7 b8 : Bool, fl f = #[.bool b0, .bool b1, .bool b2, .bool b3, .bool b4, .bool b5, .bool b6, .bool b7, .bool b8] :=
  ⟨f 0, f 1, f 2, f 3, f 4, f 5, f 6, f 7, f 8, rfl⟩

theorem prts_length (F : Nat → Nat → Bool) : ∀ (L : List Nat) (f : Nat → Bool), (prts F L f).length ≤ L.length
  | [], _ => by simp [prts]
  | v :: r, f => by
    cases h : f v
    · rw [prts_out h]; exact Nat.le_trans (prts_length F r f) (by simp)
    · rw [prts_in h]; simp only [List.length_cons]; have := prts_length F r (fun j => f j && !rch F f v j); omega

set_option maxRecDepth 100000 in
set_option maxHeartbeats 4000000 in
theorem parts_any (F : Nat → Nat → Bool) (f : Nat → Bool) (T : Nat) (w : World) (hT : Blk w T (tb F) 65) :
    Calls Try.prog 52 #[.pointer (some ⟨T, 0, none⟩), .agg (fl f)] w fun e w' => (∃ d, e = .returned d ∧ StsOwn w' w.heap.size d (prts F (List.range' 0 9) f)) ∧ Below w.heap.size w w' := by
  obtain ⟨i1, hi1, hz0, hz1, hz2⟩ := info_parts infoV3
  have GA := hide (fun g v L P W hv hf hLP hT hL hP => gather_any F f g v T L P W hv hf hLP hT hL hP)
  have HFL := hide (fl_at f)
  clear GA HFL
  have hTl := hT.lt
  have hzv := zero_fl
  have HZ : Hid (Array.size (fl fun _ => false) = 9) := fl_size _
  have HZF : Hid ((fl fun _ => false) = (fl fun _ => false)) := rfl
  have HPL := hide (prts_length F (List.range' 0 9) f)
  have HS1 : Hid (∀ k, k < 9 → ∀ h : Nat → Bool, h k = true → prts F (List.range' k (9 - k)) h = rch F h k :: prts F (List.range' (k + 1) (9 - (k + 1))) (lessF h (rch F h k))) := fun k hk h hh => by
    rw [show 9 - k = (9 - (k + 1)) + 1 by omega, List.range'_succ, prts_in hh]
    rfl
  have HS0 : Hid (∀ k, k < 9 → ∀ h : Nat → Bool, h k = false → prts F (List.range' k (9 - k)) h = prts F (List.range' (k + 1) (9 - (k + 1))) h) := fun k hk h hh => by
    rw [show 9 - k = (9 - (k + 1)) + 1 by omega, List.range'_succ, prts_out hh]
  obtain ⟨R, hR⟩ : ∃ R, R = prts F (List.range' 0 9) f := ⟨_, rfl⟩
  have H0 : Hid (R = [] ++ prts F (List.range' 0 (9 - 0)) f) := hR
  rw [← hR] at HPL ⊢
  have HEMP : Hid (fl (fun _ => false) = fl (fun _ => false)) := rfl
  have HGA : Hid (∀ (h : Nat → Bool) (v L P : Nat) (W : World), v < 9 → h v = true → L ≠ P → Blk W T (tb F) 65 → Blk W L (fl h) 63 → Blk W P (fl fun _ => false) 63 → Calls Try.prog 77 #[.pointer (some ⟨T, 0, none⟩), .int .i64 (v : Int), .pointer (some ⟨L, 0, none⟩), .pointer (some ⟨P, 0, none⟩)] W fun e w' => e = .returned (.tuple #[]) ∧ Blk w' L (fl (lessF h (rch F h v))) 63 ∧ Blk w' P (fl (rch F h v)) 63 ∧ Kept (fun i => i = L ∨ i = P) W w') := fun h v L P W hv hh hLP hT hL hP => by
    have h1 := gather_any F h (fun _ => false) v T L P W hv hh hLP hT hL hP
    have e : moreF (fun _ => false) (rch F h v) = rch F h v := by funext j; unfold moreF; simp
    rwa [e] at h1
  clear HZF HEMP hR
  generalize (fl fun _ => false) = Z at hzv HZ hz0 HGA
  have HZC : Hid ((Value.agg Z).cells.size = 9) := unhide HZ
  have HT := hide hT
  have HB0 : Hid (Blk (w.alloc (Obj.cells (fl f) 63)) w.heap.size (fl f) 63) := Gr.Blk.new0
  clear hT
  obtain ⟨C, hC⟩ : ∃ C, C = fl f := ⟨_, rfl⟩
  have HCF := hide hC
  rw [← hC] at HB0 ⊢
  clear hC
  go_enter Try.func52, Try.ntmps52
  go_wp2_with fail
  obtain ⟨V1, hV1⟩ : ∃ W, W = w.alloc (Obj.cells C 63) := ⟨_, rfl⟩
  rw [← hV1] at HB0 ⊢
  have b1 : Below w.heap.size w V1 := by rw [hV1]; exact below_new _ _
  have HT1 := hide ((unhide HT).below b1)
  have z1 : w.heap.size < V1.heap.size := by rw [hV1]; simp
  rw [unhide HCF] at HB0
  clear hV1 HT
  go_loopw [5, 8] (fun out i wr => ∃ (k : Nat) (h : Nat → Bool) (Ps : List (Nat → Bool)), i = .int .i64 (k : Int) ∧ k ≤ 9 ∧ Hid (R = Ps ++ prts F (List.range' k (9 - k)) h) ∧ Hid (StsOwn wr (w.heap.size + 1) out Ps) ∧ Hid (Blk wr w.heap.size (fl h) 63) ∧ Hid (Blk wr T (tb F) 65) ∧ Below w.heap.size w wr) (fun _ i _ => 9 - (intOf i).toNat)
  case atStart => exact ⟨0, f, [], rfl, Nat.zero_le _, H0, ⟨rfl, .inl ⟨rfl, rfl⟩⟩, HB0, HT1, b1⟩
  case round =>
    clear H0 HB0 HT1 b1 z1
    obtain ⟨k, h, Ps, rfl, hk, HR, HO, HB, HT, hb⟩ := hrel
    obtain ⟨A, cp, rfl⟩ := (unhide HO).shape
    have hgl := (unhide HB).lt
    by_cases hlt : k < 9
    · have hy0 : (0 : Int) ≤ (k : Int) := by omega
      have hy1 : (k : Int) < 9 := by omega
      have d0 := (unhide HB).cell k _ (fl_at h k hlt)
      cases hq : h k
      · rw [hq] at d0
        have HR' : Hid (R = Ps ++ prts F (List.range' (k + 1) (9 - (k + 1))) h) := by show _ = _; rw [← unhide HS0 k hlt h hq]; exact unhide HR
        clear hq
        go_wp2_with fail
        exact ⟨⟨k + 1, h, Ps, by go_num, by omega, HR', HO, HB, HT, hb⟩, by simp [intOf]; omega⟩
      · rw [hq] at d0
        have HR' : Hid (R = (Ps ++ [rch F h k]) ++ prts F (List.range' (k + 1) (9 - (k + 1))) (lessF h (rch F h k))) := by show _ = _; rw [List.append_assoc, List.singleton_append, ← unhide HS1 k hlt h hq]; exact unhide HR
        have HN9 : Hid (Ps.length + 1 ≤ 9) := by
          show _ ≤ _
          have h1 := unhide HPL
          rw [unhide HR'] at h1
          simp at h1
          omega
        have GA := hide (fun L P W hLP hT hL hP => unhide HGA h k L P W hlt hq hLP hT hL hP)
        have hi2 := hide (infoVF (rch F h k))
        have hiL := hide (infoVL (rch F h k))
        have HP9 := hide (fl_size (rch F h k))
        have HP1 := hide (fl_ones (rch F h k))
        have HSN := hide (setsV_snoc Ps (rch F h k))
        obtain ⟨m0, m1, m2, m3, m4, m5, m6, m7, m8, hnine⟩ := fl_nine (rch F h k)
        rw [hnine] at GA hi2 hiL HP9 HP1 HSN
        clear hnine
        clear hq
        go_wp2_with fail
        obtain ⟨V2, hV2⟩ : ∃ W, W = wr.alloc (Obj.cells Z 63) := ⟨_, rfl⟩
        rw [← hV2]
        have n2 : Below wr.heap.size wr V2 := by rw [hV2]; exact below_new _ _
        have P2 : Blk V2 wr.heap.size Z 63 := by rw [hV2]; exact Gr.Blk.new0
        have hzb := hb.size
        clear hV2
        refine (unhide GA w.heap.size wr.heap.size V2 (by omega) ((unhide HT).below n2) ((unhide HB).below n2) P2).mono ?_
        rintro e w4 ⟨rfl, hL4, hP4, hk4⟩
        have b4 : Below w.heap.size w w4 := (hb.trans (n2.mono hb.size)).trans ((hk4.below (B := w.heap.size) (by have := n2.size; omega) (fun i hi => by omega)))
        have hz4 : wr.heap.size < w4.heap.size := hP4.lt
        have HT4 := hide (((unhide HT).below n2).kept hk4 (by omega))
        have O4 : StsOwn w4 (w.heap.size + 1) (.slice A Ps.length cp) Ps := hk4.own ((unhide HO).below n2) (fun g hg hs => by have := World.ownsRow.lt (unhide HO) g hg; omega)
        have HL4 := hide hL4
        have r4 := hide hP4.range
        clear hL4 hk4 n2 P2 HT HB HO GA hP4
        have HN9' := unhide HN9
        have hb4' : w.heap.size + 1 ≤ w4.heap.size := by omega
        have OA := (own_below (w := w4) O4 (below_new w4 (Obj.cells #[Value.bool m0, Value.bool m1, Value.bool m2, Value.bool m3, Value.bool m4, Value.bool m5, Value.bool m6, Value.bool m7, Value.bool m8] 63)))
        have HNW := World.news_of_block (heap_alloc_new w4 (Obj.cells #[Value.bool m0, Value.bool m1, Value.bool m2, Value.bool m3, Value.bool m4, Value.bool m5, Value.bool m6, Value.bool m7, Value.bool m8] 63))
        go_wp2_with (first
          | (at_builtin; refine wpList_append_own _ rfl _ _ 71 rfl (w.heap.size + 1) 63 i1 (.agg Z) 9 9 Try.underlying71 hi1 hz0 hz1 hz2 (unhide HZC) (by decide) _ Ps.length _ rfl OA ⟨w4.heap.size, 0, none⟩ 1 1 [Value.bool m0, Value.bool m1, Value.bool m2, Value.bool m3, Value.bool m4, Value.bool m5, Value.bool m6, Value.bool m7, Value.bool m8] rfl rfl HNW (unhide HP1) ?_ ?_ ?_ ?_)
          | refine wpList_load_mid rfl 63 _ rfl wr.heap.size 0 rfl [Value.bool m0, Value.bool m1, Value.bool m2, Value.bool m3, Value.bool m4, Value.bool m5, Value.bool m6, Value.bool m7, Value.bool m8] _ (unhide r4) Try.underlying63 rfl (unhide hiL) ?_)
        · unfold maxLen; omega
        · omega
        · simp; omega
        intro v' w5 hown5 hgrow5 _
        have hb5 := below_append (B := w.heap.size + 1) (w := w4) (wr := w4) (Below.refl _ _) (by omega) O4 hgrow5
        have b5 := b4.trans (hb5.mono (by omega))
        have HL5 : Hid (Blk w5 w.heap.size (fl (lessF h (rch F h k))) 63) := by
          show Blk _ _ _ _
          have h9 := (unhide HL4).below (below_new w4 (Obj.cells #[Value.bool m0, Value.bool m1, Value.bool m2, Value.bool m3, Value.bool m4, Value.bool m5, Value.bool m6, Value.bool m7, Value.bool m8] 63))
          exact Gr.Blk.grown h9 hgrow5 (fun e => by have h8 := World.ownsRow.lt O4 w.heap.size e.symm; omega)
        have HT5 : Hid (Blk w5 T (tb F) 65) := by
          show Blk _ _ _ _
          have h9 := (unhide HT4).below (below_new w4 (Obj.cells #[Value.bool m0, Value.bool m1, Value.bool m2, Value.bool m3, Value.bool m4, Value.bool m5, Value.bool m6, Value.bool m7, Value.bool m8] 63))
          exact Gr.Blk.grown h9 hgrow5 (fun e => by have h8 := World.ownsRow.lt O4 T e.symm; omega)
        rw [← unhide HSN] at hown5
        have hfe : Ps.length + 1 = (Ps ++ [rch F h k]).length := by simp
        rw [hfe] at hown5
        have HO5 : Hid (StsOwn w5 (w.heap.size + 1) v' (Ps ++ [rch F h k])) := hown5
        clear hown5 hgrow5 hb5 hfe O4 OA HNW HL4 HT4
        go_wp2_with fail
        exact ⟨⟨k + 1, _, _, by go_num, by omega, HR', HO5, HL5, HT5, b5⟩, by simp [intOf]; omega⟩
    · obtain rfl : k = 9 := by omega
      have hr : R = Ps := by rw [unhide HR]; simp [prts]
      subst hr
      have HO' := hide ((unhide HO).lower (show w.heap.size ≤ w.heap.size + 1 by omega))
      go_wp2
      go_ret
      exact ⟨⟨_, rfl, unhide HO'⟩, hb⟩



end Lk
end Go.Proofs.Ytejfknkcakeakaa
