/-
  Texts of this claim, one behind the other: RtText.
-/
import Derived.Test.YtjhnippfepbjmaaGreatDoorJ26
import Derived.Deep.RegionHeld3
import Derived.Handy

/-
  A number in so many bytes, the highest first; the text of a root; the contracts of spec.l06Big and spec.RootText.
-/
namespace Go.Proofs.YtjhnippfepbjmaaGreatDoor
namespace Rt
open Go.RowKit

def byte1 (n : Nat) : ByteArray := ⟨#[UInt8.ofNat n]⟩

/-- f more bytes of n, ahead of what is there. -/
def bigG : Nat → Nat → ByteArray → ByteArray
  | 0, _, out => out
  | f + 1, n, out => bigG f (n / 256) (byte1 n ++ out)

theorem bigG_size (f n : Nat) (out : ByteArray) : (bigG f n out).size = f + out.size := by
  induction f generalizing n out with
  | zero => simp [bigG]
  | succ f ih =>
    have e : (byte1 n).size = 1 := rfl
    rw [bigG, ih, ByteArray.size_append, e]
    omega

/-- A number in f bytes, the highest first. -/
def bigB (f n : Nat) : ByteArray := bigG f n ⟨#[]⟩

theorem bigB_size (f n : Nat) : (bigB f n).size = f := by unfold bigB; rw [bigG_size]; rfl

theorem byte_row (n : Nat) (w : World) :
    (convert 66 9 (.slice (some ⟨w.heap.size, 0, none⟩) 1 1)).run Tryz.prog (w.alloc (.cells #[.int .u8 ((n : Int) % 256)] 5)) = .ok (.string (byte1 n)) (w.alloc (.cells #[.int .u8 ((n : Int) % 256)] 5)) := by
  refine run_convert_bytes_back _ 66 9 5 ⟨w.heap.size, 0, none⟩ 1 [UInt8.ofNat n] Tryz.underlying66 Tryz.underlying5 Tryz.underlying9 fun j hj => ?_
  have hj0 : j = 0 := by simp at hj; omega
  subst hj0
  rw [Addr.add_lit, Nat.zero_add, cell_of_row _ w.heap.size 0 _ 5 (0, 0) (heap_alloc_new w _)]
  have h : ((UInt8.ofNat n).toNat : Int) = (n : Int) % 256 := by simp [UInt8.toNat_ofNat']
  rw [← h]
  rfl

set_option maxRecDepth 100000 in
set_option maxHeartbeats 1000000 in
theorem big_any (n f : Nat) (hn : n ≤ 4294967296) (hf : f ≤ 8) (w : World) :
    Calls Tryz.prog 33 #[.int .i64 (n : Int), .int .i64 (f : Int)] w fun e w' => e = .returned (.string (bigB f n)) ∧ Below w.heap.size w w' := by
  go_enter Tryz.func33, Tryz.ntmps33
  go_wp2_with fail
  go_loopw [0, 5, 6] (fun a0 a5 a6 wr => ∃ (y i : Nat) (out : ByteArray), a0 = .int .i64 (y : Int) ∧ y ≤ 4294967296 ∧ a6 = .int .i64 (i : Int) ∧ i ≤ f ∧ a5 = .string out ∧ out.size ≤ 8 ∧ out.size = i ∧ Hid (bigG (f - i) y out = bigB f n) ∧ Below w.heap.size w wr) (fun _ _ a6 _ => f - (intOf a6).toNat)
  case atStart => exact ⟨n, 0, ⟨#[]⟩, rfl, hn, rfl, Nat.zero_le _, rfl, Nat.zero_le _, rfl, rfl, Below.refl _ _⟩
  case round =>
    obtain ⟨y, i, out, rfl, hy, rfl, hi, rfl, hos, hoi, HB, hb⟩ := hrel
    have HOI := hide hoi
    clear hoi
    by_cases hlt : i < f
    · have hcv := byte_row y wr
      have HM : Hid (bigG (f - (i + 1)) (y / 256) (byte1 y ++ out) = bigB f n) := by
        show _ = _
        rw [← unhide HB]
        have e : f - i = (f - (i + 1)) + 1 := by omega
        rw [e, bigG]
      have hfs : (byte1 y).size = 1 := rfl
      have hx1 : (i : Int) < (f : Int) := by omega
      have hos7 : out.size ≤ 7 := by have := unhide HOI; omega
      generalize byte1 y = g at hcv HM hfs
      go_wp2
      go_roundw
      case rel => exact ⟨y / 256, i + 1, g ++ out, by go_num, by omega, by go_num, by omega, rfl, by rw [ByteArray.size_append]; omega, by rw [ByteArray.size_append, unhide HOI]; omega, unhide HM, hb.alloc hb.size _⟩
      case measure => simp [intOf]; omega
    · have hx1 : ¬ (i : Int) < (f : Int) := by omega
      have HM : Hid (out = bigB f n) := by
        show _ = _
        rw [← unhide HB]
        have e : f - i = 0 := by omega
        rw [e, bigG]
      go_wp2
      go_ret
      refine ⟨?_, hb⟩
      rw [← unhide HM]
      rfl

/-- Whether there is a root of these two numbers. -/
def okR (s t : Int) : Bool := (decide (0 ≤ s) && decide (s ≤ 1000000000)) && (decide (-1 ≤ t) && decide (t ≤ 399))

/-- What is sealed of a root. -/
def rootB (s t : Int) : ByteArray := (⟨#[82]⟩ ++ bigB 4 s.toNat) ++ bigB 2 (t + 1).toNat

theorem rootB_size (s t : Int) : (rootB s t).size = 7 := by
  unfold rootB
  rw [ByteArray.size_append, ByteArray.size_append, bigB_size, bigB_size]
  rfl

/-- What RootText tells. -/
def rootT (s t : Int) : Value := if okR s t = true then .tuple #[.string (sealB (rootB s t)), .bool true] else .tuple #[.string ⟨#[]⟩, .bool false]

theorem below_new1 (w : World) (o : Obj) : Below w.heap.size w (w.alloc o) := (Below.refl _ _).alloc (Nat.le_refl _) _

theorem l01In_r (x y z : Int) (w : World) :
    Calls Tryz.prog 31 #[.int .i64 x, .int .i64 y, .int .i64 z] w fun e w' => e = .returned (.bool (decide (y ≤ x) && decide (x ≤ z))) ∧ w' = w := by
  go_enter Tryz.func31, Tryz.ntmps31
  go_wp2
  all_goals (go_ret; exact ⟨by simp_all <;> omega, rfl⟩)

set_option maxRecDepth 100000 in
set_option maxHeartbeats 800000 in
theorem specRoot_any (s t : Int) (w : World) :
    Calls Tryz.prog 22 #[.agg #[.int .i64 s, .int .i64 t]] w fun e w' => e = .returned (rootT s t) ∧ Below w.heap.size w w' := by
  have HI1 := hide (fun w => l01In_r s 0 1000000000 w)
  have HI2 := hide (fun w => l01In_r t (-1) 399 w)
  have HT : Hid (rootT s t = if okR s t = true then .tuple #[.string (sealB (rootB s t)), .bool true] else .tuple #[.string ⟨#[]⟩, .bool false]) := rfl
  have HOK : Hid (okR s t = ((decide (0 ≤ s) && decide (s ≤ 1000000000)) && (decide (-1 ≤ t) && decide (t ≤ 399)))) := rfl
  cases h1 : (decide (0 ≤ s) && decide (s ≤ 1000000000))
  · rw [h1] at HI1 HOK
    rw [unhide HOK, Bool.false_and] at HT
    rw [unhide HT]
    clear h1
    go_enter Tryz.func22, Tryz.ntmps22
    go_wp2_with fail
    refine (unhide HI1 _).mono ?_
    rintro e w2 ⟨rfl, rfl⟩
    go_wp2
    go_ret2
    exact ⟨by simp, below_new1 _ _⟩
  · cases h2 : (decide (-1 ≤ t) && decide (t ≤ 399))
    · rw [h1] at HI1 HOK
      rw [h2] at HI2 HOK
      rw [unhide HOK, Bool.and_false] at HT
      rw [unhide HT]
      clear h1 h2
      go_enter Tryz.func22, Tryz.ntmps22
      go_wp2_with fail
      refine (unhide HI1 _).mono ?_
      rintro e w2 ⟨rfl, rfl⟩
      go_wp2_with fail
      refine (unhide HI2 _).mono ?_
      rintro e w3 ⟨rfl, rfl⟩
      go_wp2
      go_ret2
      exact ⟨by simp, below_new1 _ _⟩
    · have hs : 0 ≤ s ∧ s ≤ 1000000000 := by simpa using h1
      have ht : -1 ≤ t ∧ t ≤ 399 := by simpa using h2
      rw [h1] at HI1 HOK
      rw [h2] at HI2 HOK
      rw [unhide HOK, Bool.and_self, if_pos rfl] at HT
      rw [unhide HT]
      obtain ⟨g, hg⟩ : ∃ g : Int → Int → ByteArray, g = fun f x => bigB f.toNat x.toNat := ⟨_, rfl⟩
      have HBG : Hid (∀ x f : Int, ((x = s ∧ f = 4) ∨ (x = t + 1 ∧ f = 2)) → ∀ w, Calls Tryz.prog 33 #[.int .i64 x, .int .i64 f] w fun e w' => e = .returned (.string (g f x)) ∧ Below w.heap.size w w') := fun x f h w => by
        have hx : 0 ≤ x ∧ x ≤ 1000000000 ∧ 0 ≤ f ∧ f ≤ 8 := by rcases h with ⟨rfl, rfl⟩ | ⟨rfl, rfl⟩ <;> omega
        have h0 := big_any x.toNat f.toNat (by omega) (by omega) w
        rw [show ((x.toNat : Nat) : Int) = x by omega, show ((f.toNat : Nat) : Int) = f by omega] at h0
        rw [hg]
        exact h0
      have hz1 : (g 4 s).size = 4 := by rw [hg]; exact bigB_size 4 _
      have hz2 : (g 2 (t + 1)).size = 2 := by rw [hg]; exact bigB_size 2 _
      have hrb : rootB s t = (⟨#[82]⟩ ++ g 4 s) ++ g 2 (t + 1) := by rw [hg]; rfl
      have hz3 := rootB_size s t
      have HSE := hide (fun w => specSealed_yes (rootB s t) (by omega) w)
      rw [hrb] at HSE
      rw [hrb]
      clear h1 h2 hrb hz3 hg
      have ht1 : -1 ≤ t := ht.1
      have ht2 : t ≤ 399 := ht.2
      have hwr : IntKind.i64.wrap (t + 1) = t + 1 := IntWalk.i64_in _ ⟨by omega, by omega⟩
      have hzz : ¬ 9223372036854775807 < (⟨#[82]⟩ : ByteArray).size + (g 4 s).size := by rw [hz1]; show ¬ 9223372036854775807 < 1 + 4; omega
      have hzz2 : ¬ 9223372036854775807 < ((⟨#[82]⟩ : ByteArray) ++ g 4 s).size + (g 2 (t + 1)).size := by rw [ByteArray.size_append, hz1, hz2]; show ¬ 9223372036854775807 < 1 + 4 + 2; omega
      go_enter Tryz.func22, Tryz.ntmps22
      go_wp2_with fail
      refine (unhide HI1 _).mono ?_
      rintro e w2 ⟨rfl, rfl⟩
      go_wp2_with fail
      refine (unhide HI2 _).mono ?_
      rintro e w3 ⟨rfl, hw3⟩
      subst w3
      obtain ⟨W1, hW1⟩ : ∃ W, W = w.alloc (Obj.cells #[Value.int .i64 s, Value.int .i64 t] 39) := ⟨_, rfl⟩
      have hblk : W1.heap[w.heap.size]? = some (.cells #[Value.int .i64 s, Value.int .i64 t] 39 (0, 0)) := by rw [hW1]; exact heap_alloc_new w _
      have p0 : W1.cell? ⟨w.heap.size, 0, none⟩ = some (.int .i64 s) := by rw [cell_of_row _ _ _ _ _ _ hblk]; rfl
      have p1 : W1.cell? ⟨w.heap.size, 1, none⟩ = some (.int .i64 t) := by rw [cell_of_row _ _ _ _ _ _ hblk]; rfl
      have hlt : w.heap.size < W1.heap.size := by rw [hW1]; simp
      have hbe : Below w.heap.size w W1.drew := by rw [hW1]; exact (below_new1 _ _).drew
      rw [← hW1]
      clear hW1 hblk
      go_wp2_with fail
      go_region_held3 (fun u => u.cell? ⟨w.heap.size, 0, none⟩ = some (.int .i64 s) ∧ u.cell? ⟨w.heap.size, 1, none⟩ = some (.int .i64 t))
        (first | go_keep | exact ⟨p0, p1⟩)
        (first
          | (go_at_call 33; refine (unhide HBG _ _ (by first | exact .inl ⟨rfl, rfl⟩ | exact .inr ⟨rfl, rfl⟩) _).mono ?_; rintro e wk ⟨rfl, hbk⟩; have p0 := (hbk.cell (p := ⟨w.heap.size, 0, none⟩) hlt).trans p0; have p1 := (hbk.cell (p := ⟨w.heap.size, 1, none⟩) hlt).trans p1; have hlt := Nat.lt_of_lt_of_le hlt hbk.size; have hbe := hbe.trans (hbk.mono hbe.size))
          | (go_at_call 32; refine (unhide HSE _).mono ?_; rintro e wk ⟨rfl, hbk⟩; have p0 := (hbk.cell (p := ⟨w.heap.size, 0, none⟩) hlt).trans p0; have p1 := (hbk.cell (p := ⟨w.heap.size, 1, none⟩) hlt).trans p1; have hlt := Nat.lt_of_lt_of_le hlt hbk.size; have hbe := hbe.trans (hbk.mono hbe.size)))
      all_goals
        go_wp2
        go_ret2
        exact ⟨rfl, hbe⟩
end Rt
end Go.Proofs.YtjhnippfepbjmaaGreatDoor
