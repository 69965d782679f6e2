/-
  The contract of impl's linkTable.gather: what one can go to from a vertex is taken out of what is left, and put into the part.
-/
import Derived.Test.YtejfknkcakeakaaLkG
import Derived.Test.YtejfknkcakeakaaLkH
namespace Go.Proofs.Ytejfknkcakeakaa
namespace Lk
open Go.RowKit
open Gr (Blk Kept below_new)

theorem cnt_pos {f : Nat → Bool} {v : Nat} (hv : v < 9) (h : f v = true) : 0 < cnt f := by
  have h0 := cnt_lt (p := fun _ => false) (q := f) (fun j _ h => by simp at h) hv h rfl
  omega

/-- What is left, what has been gathered set aside. -/
def lessF (f D : Nat → Bool) : Nat → Bool := fun j => f j && !D j
def moreF (g D : Nat → Bool) : Nat → Bool := fun j => g j || D j

theorem less_set (f : Nat → Bool) (v : Nat) : (fl f).setIfInBounds v (.bool false) = fl (lessF f (fun j => j == v)) := by
  rw [fl_set]
  refine fl_congr (fun j _ => ?_)
  unfold lessF
  by_cases h : j = v
  · subst h; simp
  · simp [h]

theorem more_set (g : Nat → Bool) (v : Nat) : (fl g).setIfInBounds v (.bool true) = fl (moreF g (fun j => j == v)) := by
  rw [fl_set]
  refine fl_congr (fun j _ => ?_)
  unfold moreF
  by_cases h : j = v
  · subst h; simp
  · simp [h]

theorem less_two (f D R : Nat → Bool) : lessF (lessF f D) R = lessF f (fun j => D j || R j) := by
  funext j
  unfold lessF
  show (_ && !_ && !_) = (_ && !(_ || _))
  cases f j <;> cases D j <;> cases R j <;> rfl

theorem more_two (g D R : Nat → Bool) : moreF (moreF g D) R = moreF g (fun j => D j || R j) := by
  funext j
  unfold moreF
  show (_ || _ || _) = (_ || (_ || _))
  cases g j <;> cases D j <;> cases R j <;> rfl

/-- What a call of gather does, where fewer than n are left. -/
def GatherC (n : Nat) : Prop := ∀ (F : Nat → Nat → Bool) (f g : Nat → Bool) (v T L P : Nat) (w : World), cnt f < n → v < 9 → f v = true → L ≠ P → Blk w T (tb F) 65 → Blk w L (fl f) 63 → Blk w P (fl g) 63 →
  Calls Try.prog 77 #[.pointer (some ⟨T, 0, none⟩), .int .i64 (v : Int), .pointer (some ⟨L, 0, none⟩), .pointer (some ⟨P, 0, none⟩)] w fun e w' => e = .returned (.tuple #[]) ∧ Blk w' L (fl (lessF f (rch F f v))) 63 ∧ Blk w' P (fl (moreF g (rch F f v))) 63 ∧ Kept (fun i => i = L ∨ i = P) w w'

theorem tbl_ne {w : World} {T L : Nat} {C D : Array Value} (h : Blk w T C 65) (k : Blk w L D 63) : T ≠ L := fun e => by
  subst e
  unfold Blk at h k
  rw [h] at k
  simp at k

set_option maxRecDepth 100000 in
set_option maxHeartbeats 4000000 in
theorem gather_next (n : Nat) (ih : GatherC n) : GatherC (n + 1) := by
  intro F f g v T L P w hn hv hfv hLP hT hL hP
  have IH := hide ih
  have hTL := tbl_ne hT hL
  have hTP := tbl_ne hT hP
  have HG0 := hide (gat0 F f v)
  have HSK := hide (fun k D (h : Gat F f v k D) hs => gat_skip h hs)
  have HGO := hide (fun k D (hk : k < 9) (h : Gat F f v k D) h1 h2 => gat_go hv hk h h1 h2)
  have HEN := hide (fun D (h : Gat F f v 9 D) => gat_end hv h)
  have HFW := hide (fun k D (h : Gat F f v k D) => gat_fewer hv hfv h)
  have HIX := hide (index_fl (F v))
  have hrow := hT.part (v * 9) (fl (F v)) (tb_part F v hv)
  have hiL := hide (infoVL (F v))
  have HT := hide hT
  have HL := hide hL
  have HP := hide hP
  have hTl := hT.lt
  have hLl := hL.lt
  have hPl := hP.lt
  have c0 := hL.cell v _ (fl_at f v hv)
  have c1 := hP.cell v _ (fl_at g v hv)
  have f0 := hL.froz v
  have f1 := hP.froz v
  have hx0 : (0 : Int) ≤ (v : Int) := by omega
  have hx1 : (v : Int) < 9 := by omega
  obtain ⟨C, hCdef⟩ : ∃ C, C = fl (F v) := ⟨_, rfl⟩
  rw [← hCdef] at HIX hrow hiL
  have HRW := hide hrow
  have hgv : ∃ b, b = g v := ⟨_, rfl⟩
  obtain ⟨bg, hbg⟩ := hgv
  rw [← hbg] at c1
  rw [hfv] at c0
  have A1 : Hid (Blk ((w.setCell ⟨L, v, none⟩ (.bool false)).setCell ⟨P, v, none⟩ (.bool true)) L (fl (lessF f (fun j => j == v))) 63 ∧ Blk ((w.setCell ⟨L, v, none⟩ (.bool false)).setCell ⟨P, v, none⟩ (.bool true)) P (fl (moreF g (fun j => j == v))) 63 ∧ Kept (fun i => i = L ∨ i = P) w ((w.setCell ⟨L, v, none⟩ (.bool false)).setCell ⟨P, v, none⟩ (.bool true))) := by
    refine ⟨?_, ?_, ?_⟩
    · rw [← less_set]; exact (hL.set v _).set_other hLP _ _
    · rw [← more_set]; exact (hP.set_other (Ne.symm hLP) _ _).set v _
    · exact (Gr.Kept.set _ _ _ _ (.inl rfl)).trans (Gr.Kept.set _ _ _ _ (.inr rfl))
  have HCD := hide hCdef
  clear hCdef
  clear hT hL hP hrow hbg ih hfv
  go_enter Try.func77, Try.ntmps77
  go_wp2_with fail
  go_region
  obtain ⟨hL1, hP1, hk1⟩ := unhide A1
  obtain ⟨wx, hwx⟩ : ∃ W, W = ((w.setCell ⟨L, v, none⟩ (.bool false)).setCell ⟨P, v, none⟩ (.bool true)).drew := ⟨_, rfl⟩
  rw [← hwx]
  replace hL1 : Blk wx L (fl (lessF f (fun j => j == v))) 63 := by rw [hwx]; exact hL1.drew
  replace hP1 : Blk wx P (fl (moreF g (fun j => j == v))) 63 := by rw [hwx]; exact hP1.drew
  replace hk1 : Kept (fun i => i = L ∨ i = P) w wx := by rw [hwx]; exact Gr.Kept.drew hk1
  clear hwx
  have HT1 := hide ((unhide HT).kept hk1 (by omega))
  have HR1 := hide ((unhide HT1).part (v * 9) (fl (F v)) (tb_part F v hv))
  have hCF : Hid (∀ W : World, W.rangeAt T (v * 9) (fl (F v)).toList → W.rangeAt T (v * 9) (fl (F v)).toList) := fun _ h => h
  clear HT HL HP A1 c0 c1 f0 f1 HRW
  generalize hCC : fl (F v) = C' at HR1 hCF
  obtain rfl : C' = C := by rw [← hCC, ← unhide HCD]
  have HL1 := hide hL1
  have HP1 := hide hP1
  clear hL1 hP1 hCF hCC
  go_wp2_with (first
    | refine wpList_load_mid rfl 63 _ rfl T (v * 9) rfl C'.toList _ (unhide HR1) Try.underlying63 rfl (unhide hiL) ?_)
  go_loopw [23] (fun i wr => ∃ (k : Nat) (D : Nat → Bool), i = .int .i64 (k : Int) ∧ k ≤ 9 ∧ Hid (Gat F f v k D) ∧ Hid (Blk wr L (fl (lessF f D)) 63) ∧ Hid (Blk wr P (fl (moreF g D)) 63) ∧ Hid (Blk wr T (tb F) 65) ∧ Kept (fun i => i = L ∨ i = P) w wr) (fun i _ => 9 - (intOf i).toNat)
  case atStart => exact ⟨0, _, rfl, Nat.zero_le _, HG0, HL1, HP1, HT1, hk1⟩
  case round =>
    clear HG0 HL1 HP1 HT1 hk1 HR1
    obtain ⟨k, D, rfl, hk, HG, HL, HP, HT, hkp⟩ := hrel
    have hLl := (unhide HL).lt
    by_cases hlt : k < 9
    · have hix := unhide HIX wr k hlt
      have hy0 : (0 : Int) ≤ (k : Int) := by omega
      have hy1 : (k : Int) < 9 := by omega
      have d0 := (unhide HL).cell k _ (fl_at (lessF f D) k hlt)
      cases hF : F v k
      · rw [hF] at hix
        have HG' := hide (unhide HSK k D (unhide HG) (.inl hF))
        clear hF d0
        go_wp2_with fail
        exact ⟨⟨k + 1, D, by go_num, by omega, HG', HL, HP, HT, hkp⟩, by simp [intOf]; omega⟩
      · rw [hF] at hix
        cases hq : lessF f D k
        · rw [hq] at d0
          have HG' := hide (unhide HSK k D (unhide HG) (.inr hq))
          clear hF hq
          go_wp2_with fail
          exact ⟨⟨k + 1, D, by go_num, by omega, HG', HL, HP, HT, hkp⟩, by simp [intOf]; omega⟩
        · rw [hq] at d0
          have HG' := hide (unhide HGO k D hlt (unhide HG) hF hq)
          have CA := hide (unhide IH F (lessF f D) (moreF g D) k T L P wr (by have := unhide HFW k D (unhide HG); unfold lessF; omega) hlt hq hLP (unhide HT) (unhide HL) (unhide HP))
          rw [less_two, more_two] at CA
          clear hF hq
          go_wp2_with fail
          refine (unhide CA).mono ?_
          rintro e w5 ⟨rfl, hL5, hP5, hk5⟩
          have HT5 := hide ((unhide HT).kept hk5 (by omega))
          have hkp5 := hkp.trans hk5
          have HL5 := hide hL5
          have HP5 := hide hP5
          clear hL5 hP5 hk5 CA
          go_wp2_with fail
          exact ⟨⟨k + 1, _, by go_num, by omega, HG', HL5, HP5, HT5, hkp5⟩, by simp [intOf]; omega⟩
    · obtain rfl : k = 9 := by omega
      have he := unhide HEN D (unhide HG)
      subst he
      have HLE := hide (unhide HL)
      go_wp2
      go_end0
      exact ⟨rfl, unhide HL, unhide HP, hkp⟩

theorem gather_all : ∀ n, GatherC n
  | 0 => by intro F f g v T L P w hn; omega
  | n + 1 => gather_next n (gather_all n)

theorem gather_any (F : Nat → Nat → Bool) (f g : Nat → Bool) (v T L P : Nat) (w : World) (hv : v < 9) (hf : f v = true) (hLP : L ≠ P) (hT : Blk w T (tb F) 65) (hL : Blk w L (fl f) 63) (hP : Blk w P (fl g) 63) :
    Calls Try.prog 77 #[.pointer (some ⟨T, 0, none⟩), .int .i64 (v : Int), .pointer (some ⟨L, 0, none⟩), .pointer (some ⟨P, 0, none⟩)] w fun e w' => e = .returned (.tuple #[]) ∧ Blk w' L (fl (lessF f (rch F f v))) 63 ∧ Blk w' P (fl (moreF g (rch F f v))) 63 ∧ Kept (fun i => i = L ∨ i = P) w w' :=
  gather_all (cnt f + 1) F f g v T L P w (by omega) hv hf hLP hT hL hP

end Lk
end Go.Proofs.Ytejfknkcakeakaa
