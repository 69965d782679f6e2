/-
 Clone, CloneTxt, GrImplP.
-/
import Derived.Shelf.Strconv.Clone
import Derived.Test.YtihnaddfpmjpaaaGreatDoorProg
import Derived.Handy
import Derived.Test.YtihnaddfpmjpaaaGreatDoorJ18
import Derived.Test.YtihnaddfpmjpaaaGreatDoorJ16
namespace Go.Proofs
open Go.Shelf
def Tryz.laysM316_ren : Go.Shelf.Ren := ⟨fun | 316 => 112 | n => n, fun | 9 => 9 | 3 => 3 | 4 => 4 | 37 => 103 | 0 => 0 | 127 => 173 | 5 => 5 | n => n, fun | n => n⟩
theorem Tryz.laysM316 : Go.Proofs.LaysM.n316 Tryz.prog Tryz.laysM316_ren := {
  mixed := by kernel_rfl
  f316 := Tryz.func112.trans (congrArg some (by kernel_rfl))
  t0 := Tryz.underlying0
  a0 := Tryz.isAgg0
  z0 := Tryz.sizeOf0
  v0 := Tryz.zeroValue0
  t3 := Tryz.underlying3
  a3 := Tryz.isAgg3
  z3 := Tryz.sizeOf3
  v3 := Tryz.zeroValue3
  t4 := Tryz.underlying4
  a4 := Tryz.isAgg4
  z4 := Tryz.sizeOf4
  v4 := Tryz.zeroValue4
  t9 := Tryz.underlying9
  a9 := Tryz.isAgg9
  z9 := Tryz.sizeOf9
  v9 := Tryz.zeroValue9
  t37 := Tryz.underlying103
  a37 := Tryz.isAgg103
  z37 := Tryz.sizeOf103
  v37 := Tryz.zeroValue103
  t127 := Tryz.underlying173
  a127 := Tryz.isAgg173
  z127 := Tryz.sizeOf173
  v127 := Tryz.zeroValue173
  t5 := Tryz.underlying5
  a5 := Tryz.isAgg5
  z5 := Tryz.sizeOf5
  v5 := Tryz.zeroValue5
  i0 := by kernel_rfl
  i3 := by kernel_rfl
  i4 := by kernel_rfl
  i5 := by kernel_rfl
  i9 := by kernel_rfl
  i37 := by kernel_rfl
  i127 := by kernel_rfl }
open Go.RowKit in
theorem Tryz.stringslite_Clone (s : ByteArray) (w : World) (hlim : s.size ≤ 281474976710656) :
    Calls Tryz.prog 112 #[.string s] w fun e w' => e = .returned (.string s) ∧ Below w.heap.size w w' := Any.stringslite_Clone Tryz.laysM316 s w hlim
end Go.Proofs
namespace Go.Proofs.YtihnaddfpmjpaaaGreatDoor
open Go.RowKit
theorem clone_txt (s : ByteArray) (hs : s.size ≤ 140737488355328) (w : World) :
    Calls Tryz.prog 91 #[.string s] w fun e w' => e = .returned (.string s) ∧ Below w.heap.size w w' := by
  go_enter Tryz.func91, Tryz.ntmps91
  go_wp2_with fail
  refine (Tryz.stringslite_Clone s _ (by omega)).mono ?_
  rintro e w1 ⟨rfl, hb1⟩
  go_wp2
  go_ret
  exact ⟨rfl, hb1⟩
end Go.Proofs.YtihnaddfpmjpaaaGreatDoor
namespace Go.Proofs.YtihnaddfpmjpaaaGreatDoor
namespace Gr
open Go.RowKit
theorem ext_size (x : ByteArray) (a b : Nat) (hb : b ≤ x.size) : (x.extract a b).size = b - a := by rw [ByteArray.size_extract]; omega
theorem parts_next (x : ByteArray) (k : Nat) (h : k < x.size) : partsT (x.extract k x.size) = x.extract k (min (k + 40) x.size) :: partsT (x.extract (k + 40) x.size) := by
  have hs := ext_size x k x.size (Nat.le_refl _)
  have hs' := ext_size x (k + 40) x.size (Nat.le_refl _)
  by_cases h40 : 40 < (x.extract k x.size).size
  · rw [parts_more _ h40]
    have e1 : (x.extract k x.size).extract 0 40 = x.extract k (min (k + 40) x.size) := by
      rw [ByteArray.extract_extract, Nat.add_zero]
    have e2 : (x.extract k x.size).extract 40 (x.extract k x.size).size = x.extract (k + 40) x.size := by
      rw [ByteArray.extract_extract, show min (k + (x.extract k x.size).size) x.size = x.size by omega]
    rw [e1, e2]
  · rw [parts_last _ h40 (by omega), parts_none (x.extract (k + 40) x.size) (by omega)]
    rw [show min (k + 40) x.size = x.size by omega]
set_option maxRecDepth 100000 in
set_option maxHeartbeats 2000000 in
theorem implParts_gen (B : Nat) (x : ByteArray) (hx : x.size ≤ 1048576) (w : World) (_hB : B ≤ w.heap.size) :
    Calls Tryz.prog 124 #[.string x] w fun e w' => (∃ d, e = .returned d ∧ StOwn w' w.heap.size d (partsT x)) ∧ Below w.heap.size w w' := by
  obtain ⟨i0, hi0, hz0, hz1, hz2⟩ := info_parts info_string
  have HL : Hid (∀ t : ByteArray, (partsT t).length ≤ t.size) := fun t => partsF_length _ t
  generalize hP : partsT x = P
  have HP : Hid (P = [] ++ partsT (x.extract 0 x.size)) := by show _ = _; rw [← hP]; simp
  have HPL : Hid (P.length ≤ 1048576) := by show _ ≤ _; rw [← hP]; exact Nat.le_trans (unhide HL x) hx
  clear hP
  go_enter Tryz.func124, Tryz.ntmps124
  go_wp2_with fail
  go_loopw [3, 4] (fun v f wr => ∃ (k : Nat) (L : List ByteArray), f = .int .i64 (k : Int) ∧ k ≤ 1048616 ∧ Hid (P = L ++ partsT (x.extract k x.size)) ∧ Hid (wr.ownsRow w.heap.size 9 1 v L.length (textsV L)) ∧ Below w.heap.size w wr) (fun _ f _ => 1048616 - (intOf f).toNat)
  case atStart => exact ⟨0, [], rfl, Nat.zero_le _, unhide HP, ⟨rfl, .inl ⟨rfl, rfl⟩⟩, Below.refl _ _⟩
  case round =>
    obtain ⟨k, L, rfl, hk, hp, ho, hb⟩ := hrel
    by_cases hlt : k < x.size
    · have hx0 : (0 : Int) ≤ (k : Int) := by omega
      have hx1 : (k : Int) < (x.size : Int) := by omega
      have hown := unhide ho
      have hLP : L.length ≤ 1048576 := by have h1 := unhide HPL; rw [unhide hp, List.length_append] at h1; omega
      have HN := hide (parts_next x k hlt)
      have hbs := hb.size
      have em : (min ((k : Int) + 40) (x.size : Int)).toNat = min (k + 40) x.size := by omega
      rw [← em] at HN
      have hem : (min ((k : Int) + 40) (x.size : Int)).toNat ≤ x.size := by omega
      clear em
      have hes := ext_size x k _ hem
      have CL := hide (fun w1 => clone_txt (x.extract k (min ((k : Int) + 40) (x.size : Int)).toNat) (by omega) w1)
      have hc0 : (k : Int) ≤ (x.size : Int) := by omega
      obtain ⟨y, hy⟩ : ∃ y, y = x.extract k (min ((k : Int) + 40) (x.size : Int)).toNat := ⟨_, rfl⟩
      have HN2 : Hid (P = (L ++ [y]) ++ partsT (x.extract (k + 40) x.size)) := by
        show _ = _
        rw [unhide hp, unhide HN, hy, List.append_assoc]
        rfl
      clear HN hes hem
      go_wp2_with fail
      rw [← hy] at CL ⊢
      clear hy
      refine (unhide CL _).mono ?_
      rintro e w1 ⟨rfl, hb1⟩
      have hown1 := own_below hown hb1
      have hb2 := hb.trans (hb1.mono hbs)
      have hbs2 := hb2.size
      go_wp2_with (at_builtin; refine wpList_append_own _ rfl _ _ 97 rfl w.heap.size 9 i0 (.string ⟨#[]⟩) 1 16 Tryz.underlying97 hi0 hz0 hz1 hz2 rfl (by decide) _ _ _ rfl (hown1.alloc _) ⟨w1.heap.size, 0, none⟩ 1 1 [.string y] rfl rfl (cell_one_new _ _ _) (one_text _) ?c3 ?c4 ?c5 ?_)
      case c3 => unfold maxLen; omega
      case c4 => omega
      case c5 => simp; omega
      intro v' w3 hown' hgrow _
      have hb3 := below_append hb2 (Nat.le_refl _) hown1 hgrow
      have HO2 := hide (own_text hown')
      clear hown hown1 hown' hgrow
      go_wp2_with fail
      exact ⟨⟨k + 40, L ++ [y], by go_num, by omega, unhide HN2, unhide HO2, hb3⟩, by simp [intOf]; omega⟩
    · have hes := ext_size x k x.size (Nat.le_refl _)
      have hPe : P = L := by rw [unhide hp, parts_none _ (by omega), List.append_nil]
      have hx1 : ¬ (k : Int) < (x.size : Int) := by omega
      have HO2 : Hid (StOwn wr w.heap.size u3 P) := by rw [hPe]; exact unhide ho
      clear hPe hes
      go_wp2_with fail
      go_ret
      exact ⟨⟨_, rfl, unhide HO2⟩, hb⟩
end Gr
end Go.Proofs.YtihnaddfpmjpaaaGreatDoor
