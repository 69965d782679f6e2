/-
  Texts of this claim, one behind the other: GrPut.
-/
import Derived.Test.YtldbanpfhlmjmaaJ9
import Derived.Test.YtldbanpfhlmjmaaJ25
import Derived.Test.YtldbanpfhlmjmaaJ26

/-
  The contracts of impl.varForm and of the writer's put: numbers, one behind the other.
-/
namespace Go.Proofs.Ytldbanpfhlmjmaa
namespace Gr
open Go.RowKit

set_option maxRecDepth 100000 in
theorem varForm_any (x : Int) (h0 : 0 ≤ x) (h1 : x ≤ 1000000000) (w : World) :
    Calls Try.prog 74 #[.int .i64 x] w fun e w' => e = .returned (.string (vB x)) ∧ Below w.heap.size w w' := by
  obtain ⟨n, rfl⟩ := Int.eq_ofNat_of_zero_le h0
  have IV := hide (implVar_yes n (by omega) w)
  have e : vB (n : Int) = ⟨(varB 4 n).toArray⟩ := rfl
  rw [e]
  generalize (varB 4 n).toArray = t at IV
  clear e
  go_enter Try.func74, Try.ntmps74
  go_wp2_with fail
  refine (unhide IV).mono ?_
  rintro e w1 ⟨rfl, hb1⟩
  go_wp2
  go_ret
  exact ⟨rfl, hb1⟩

/-- A row of numbers that a writer in block b leaves alone. -/
def RowW (w : World) (B b : Nat) (a : Option Addr) (len : Nat) (L : List Int) : Prop :=
  L.length = len ∧ ∀ j (h : j < L.length), ∃ k off, a = some ⟨k, off, none⟩ ∧ w.cell? ⟨k, off + j, none⟩ = some (.int .i64 L[j]) ∧ k < w.heap.size ∧ (k < B ∨ (k ≠ b ∧ ∃ C t z, w.heap[k]? = some (.cells C t z) ∧ t ≠ 5))

theorem others_cell {w w' : World} {b k : Nat} (h : Lib.OthersKept 5 (some b) w w') (hk : k ≠ b) {C : Array Value} {t : TypeId} {z : Nat × Nat} (hc : w.heap[k]? = some (.cells C t z)) (ht : t ≠ 5) : w'.heap[k]? = some (.cells C t z) :=
  h k _ hc (fun e => hk (Option.some.inj e)) (fun c fz e => ht (by simp at e; exact e.2.1))

theorem cell_same {w w' : World} {k off : Nat} (h : w'.heap[k]? = w.heap[k]?) : w'.cell? ⟨k, off, none⟩ = w.cell? ⟨k, off, none⟩ := by
  unfold World.cell?
  simp only []
  rw [h]

theorem RowW.kept {w w' : World} {B b : Nat} {a : Option Addr} {len : Nat} {L : List Int} (h : RowW w B b a len L) (hb : Below B w w') (ho : Lib.OthersKept 5 (some b) w w') : RowW w' B b a len L := by
  refine ⟨h.1, fun j hj => ?_⟩
  obtain ⟨k, off, e, hc, hlt, hk⟩ := h.2 j hj
  rcases hk with hk | ⟨hk, C, t, z, h1, h2⟩
  · exact ⟨k, off, e, (hb.cell (p := ⟨k, off + j, none⟩) hk).trans hc, Nat.lt_of_lt_of_le hlt hb.size, .inl hk⟩
  · have h3 := others_cell ho hk h1 h2
    exact ⟨k, off, e, (cell_same (h3.trans h1.symm)).trans hc, Nat.lt_of_lt_of_le hlt hb.size, .inr ⟨hk, C, t, z, h3, h2⟩⟩

theorem RowW.below {w w' : World} {B b : Nat} {a : Option Addr} {len : Nat} {L : List Int} (h : RowW w B b a len L) (hb : Below w.heap.size w w') : RowW w' B b a len L := by
  refine ⟨h.1, fun j hj => ?_⟩
  obtain ⟨k, off, e, hc, hlt, hk⟩ := h.2 j hj
  refine ⟨k, off, e, (hb.cell (p := ⟨k, off + j, none⟩) hlt).trans hc, Nat.lt_of_lt_of_le hlt hb.size, ?_⟩
  rcases hk with hk | ⟨hk, C, t, z, h1, h2⟩
  · exact .inl hk
  · exact .inr ⟨hk, C, t, z, (hb.block k hlt).trans h1, h2⟩

theorem RowW.of_ints {w : World} {B b C : Nat} {a : Option Addr} {len : Nat} {L : List Int} (h : IntsAt w a len C L) (hC : C ≤ B) (hB : B ≤ w.heap.size) : RowW w B b a len L := by
  refine ⟨h.1, fun j hj => ?_⟩
  obtain ⟨k, off, e, hk, hc⟩ := h.2 j hj
  exact ⟨k, off, e, hc, by omega, .inl (by omega)⟩

/-- A row that was laid just now. -/
theorem RowW.new {w : World} {B b : Nat} {L : List Int} {cs : Array Value} (hcs : cs = (L.map (Value.int .i64)).toArray) (hb : b < w.heap.size) : RowW (w.alloc (.cells cs 3)) B b (some ⟨w.heap.size, 0, none⟩) L.length L := by
  refine ⟨rfl, fun j hj => ⟨w.heap.size, 0, rfl, ?_, by rw [alloc_size]; omega, .inr ⟨by omega, cs, 3, (0, 0), heap_alloc_new w _, by decide⟩⟩⟩
  have h : Blk (w.alloc (.cells cs 3)) w.heap.size cs 3 := Blk.new0
  rw [Nat.zero_add]
  exact h.cell j _ (by rw [hcs]; simp [hj])

theorem Wri.lt {w : World} {B b : Nat} {t : ByteArray} (h : Wri w B b t) : b < w.heap.size := by
  rcases h with h | h <;> exact h.lt

theorem Wri.base {w : World} {B b : Nat} {t : ByteArray} (h : Wri w B b t) : B ≤ b := by
  rcases h with h | h <;> exact h.1

theorem Wri.below {w w' : World} {B b : Nat} {t : ByteArray} (h : Wri w B b t) (hb : Below w.heap.size w w') : Wri w' B b t := by
  have key : ∀ p, Lib.BuilderAt 71 5 B b p (Lib.strCells t) w → Lib.BuilderAt 71 5 B b p (Lib.strCells t) w' := by
    intro p hp
    have hlt := hp.lt
    obtain ⟨hB, v, hbk, hown, hne⟩ := hp
    exact ⟨hB, v, (hb.block b hlt).trans hbk, own_below hown hb, hne⟩
  rcases h with h | h
  · exact .inl (key _ h)
  · exact .inr (key _ h)

theorem others_below {w w' : World} {b : Option Nat} (hb : Below w.heap.size w w') : Lib.OthersKept 5 b w w' := by
  intro k o hk _ _
  have hlt : k < w.heap.size := (Array.getElem?_eq_some_iff.1 hk).1
  exact (hb.block k hlt).trans hk

theorem intsB_take (t : ByteArray) (L : List Int) (j : Nat) (h : j < L.length) : intsB t (L.take (j + 1)) = intsB t (L.take j) ++ vB L[j] := by
  have key : ∀ (L : List Int) (t : ByteArray) (x : Int), intsB t (L ++ [x]) = intsB t L ++ vB x := by
    intro L
    induction L with
    | nil => intro t x; rfl
    | cons y r ih => intro t x; rw [List.cons_append, intsB, intsB, ih]
  rw [List.take_succ_eq_append_getElem h, key]

theorem intsB_size : ∀ (L : List Int) (t : ByteArray), (intsB t L).size ≤ t.size + 5 * L.length
  | [], t => by simp [intsB]
  | x :: r, t => by
    rw [intsB]
    have h1 := intsB_size r (t ++ vB x)
    have h2 := vB_size x
    rw [ByteArray.size_append] at h1
    rw [List.length_cons]
    omega

set_option maxRecDepth 100000 in
set_option maxHeartbeats 2000000 in
theorem put_any (B b : Nat) (t : ByteArray) (a : Option Addr) (len cap : Nat) (L : List Int) (hL : ∀ x ∈ L, 0 ≤ x ∧ x ≤ 1000000000) (ht : t.size + 5 * len ≤ 100000000000) (w : World) (hW : Wri w B b t) (hBw : B ≤ w.heap.size) (hr : RowW w B b a len L) :
    Calls Try.prog 48 #[.pointer (some ⟨b, 0, none⟩), .slice a len cap] w fun e w' => e = .returned (.tuple #[]) ∧ Wri w' B b (intsB t L) ∧ Below B w w' ∧ Lib.OthersKept 5 (some b) w w' := by
  have HW := hide hW
  have HR := hide hr
  have HL := hide hr.1
  clear hW hr
  go_enter Try.func48, Try.ntmps48
  go_wp2_with fail
  go_loopw [8] (fun i wr => ∃ j : Nat, i = .int .i64 j ∧ j ≤ len ∧ Hid (Wri wr B b (intsB t (L.take j))) ∧ Below B w wr ∧ Hid (Lib.OthersKept 5 (some b) w wr)) (fun i _ => len - (intOf i).toNat)
  case atStart => exact ⟨0, rfl, Nat.zero_le _, unhide HW, Below.refl _ _, Lib.OthersKept.refl _ _ _⟩
  case round =>
    obtain ⟨j, rfl, hj, hw, hb, ho⟩ := hrel
    by_cases hlt : j < len
    · have hjL : j < L.length := by have := unhide HL; omega
      have hr1 := (unhide HR).kept hb (unhide ho)
      obtain ⟨k, off, rfl, hcell, _, _⟩ := hr1.2 j hjL
      clear hr1
      have hx0 : (0 : Int) ≤ (j : Int) := by omega
      have hx1 : (j : Int) < (len : Int) := by omega
      have HS := hide (intsB_take t L j hjL)
      have hsz := intsB_size (L.take j) t
      have hsl : (L.take j).length ≤ len := by rw [List.length_take]; omega
      obtain ⟨y0, y1⟩ := hL L[j] (List.getElem_mem hjL)
      have hvs := vB_size L[j]
      have VF := hide (fun w1 => varForm_any L[j] y0 y1 w1)
      generalize L[j] = y at hcell HS VF hvs
      have hBr : B ≤ wr.heap.size := Nat.le_trans hBw hb.size
      have WS := hide (fun w1 (hb1 : Below wr.heap.size wr w1) => writeString_any B b (intsB t (L.take j)) (vB y) w1 ((unhide hw).below hb1) (by omega) (Nat.le_trans hBr hb1.size))
      generalize vB y = s at HS VF WS
      clear y0 y1 hsz hsl hvs
      go_wp2_with fail
      refine wp_region_pre wr.heap.size 5 1 #[true, true, true, true, true, false] (by kernel_rfl) (by kernel_rfl) (by kernel_rfl) (by kernel_rfl) (by kernel_rfl) (by kernel_rfl) ?_
      (try simp only [List.take_succ_cons, List.take_zero])
      repeat (go_big_quiet_step (first
        | (go_at_call 74; exact Calls.grown (Nat.le_refl _) (unhide VF _))))
      refine wpQuiet_nil ?_
      rintro w5 ⟨d5, rfl⟩
      obtain ⟨W5, hb5⟩ := d5
      dsimp only
      refine wpAny_ready (rs := [5]) (fuel := 0) (by kernel_rfl) (by simp) ?_
      refine AllReady.cons (i := 5) rfl (fun K hK => ?_) AllReady.nil
      go_simp
      refine (unhide WS W5 hb5).mono ?_
      rintro e w6 ⟨rfl, h6, b6, o6⟩
      refine hK _ _ ?_
      clear hK K
      refine ⟨by kernel_rfl, ?_⟩
      have HW6 := hide h6
      have B6 : Below B w w6 := hb.trans ((hb5.mono hBr).trans b6)
      have O6 := hide ((unhide ho).trans ((others_below hb5).trans o6))
      clear h6 b6 o6 hb5 W5
      go_wp2
      go_roundw
      case rel => exact ⟨j + 1, by go_num, by omega, by rw [unhide HS]; exact unhide HW6, B6, unhide O6⟩
      case measure => simp [intOf]; omega
    · obtain rfl : j = len := by omega
      have e : L.take j = L := by rw [List.take_of_length_le]; have := unhide HL; omega
      go_wp2
      go_end0
      refine ⟨rfl, ?_, hb, unhide ho⟩
      have := unhide hw
      rwa [e] at this

end Gr
end Go.Proofs.Ytldbanpfhlmjmaa
