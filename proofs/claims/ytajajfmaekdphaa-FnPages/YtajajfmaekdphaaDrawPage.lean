/-
  The contract of spec.l04Page: some page of at most five small items, new.
-/
import Derived.Test.YtajajfmaekdphaaDrawPick
import Derived.Test.YtajajfmaekdphaaPgByte
import Derived.Test.YtajajfmaekdphaaPgItem
import Derived.Deep.DeepCutAuto
import Derived.Deep.RegionWith
namespace Go.Proofs.Ytajajfmaekdphaa
open Go.RowKit

def SmallI (L : List It) : Prop := ∀ x ∈ L, x.key.size ≤ 100 ∧ x.val.size ≤ 100

theorem Code.kept {a : Option Addr} {len B g : Nat} {w w' : World} (h : Code a len B w) (hB : B ≤ g) (hg : g ≤ w.heap.size) (hk : Kept (fun k => k = g) w w') : Code a len B w' :=
  h.below (hk.below hg (fun i hi => by omega)) hB

theorem byte_two (b : UInt8) (x : Int) (hx : IntKind.u8.wrap x = (b.toNat : Int)) (o : Obj) (w : World) :
    (convert 22 9 (.slice (some ⟨w.heap.size, 0, none⟩) 1 1)).run Try.prog ((w.alloc (.cells #[.int .u8 (IntKind.u8.wrap x)] 5)).alloc o) = .ok (.string ⟨#[b]⟩) ((w.alloc (.cells #[.int .u8 (IntKind.u8.wrap x)] 5)).alloc o) := by
  refine byte_at b w.heap.size _ ?_
  rw [(below_new _ o).cell (p := ⟨w.heap.size, 0, none⟩) (by simp), hx]
  exact cell_of_row _ w.heap.size 0 _ 5 (0, 0) (heap_alloc_new w _)

theorem byte_next (b : UInt8) (x : Int) (hx : IntKind.u8.wrap x = (b.toNat : Int)) (o : Obj) (w : World) :
    (convert 22 9 (.slice (some ⟨w.heap.size + 1, 0, none⟩) 1 1)).run Try.prog ((w.alloc o).alloc (.cells #[.int .u8 (IntKind.u8.wrap x)] 5)) = .ok (.string ⟨#[b]⟩) ((w.alloc o).alloc (.cells #[.int .u8 (IntKind.u8.wrap x)] 5)) := by
  have h := byte_row_wrap b x hx (w.alloc o)
  simpa using h

theorem byte_two_drew (b : UInt8) (x : Int) (hx : IntKind.u8.wrap x = (b.toNat : Int)) (o : Obj) (w : World) :
    (convert 22 9 (.slice (some ⟨w.heap.size, 0, none⟩) 1 1)).run Try.prog ((w.alloc (.cells #[.int .u8 (IntKind.u8.wrap x)] 5)).alloc o).drew = .ok (.string ⟨#[b]⟩) ((w.alloc (.cells #[.int .u8 (IntKind.u8.wrap x)] 5)).alloc o).drew := byte_two b x hx o w.drew

theorem byte_next_drew (b : UInt8) (x : Int) (hx : IntKind.u8.wrap x = (b.toNat : Int)) (o : Obj) (w : World) :
    (convert 22 9 (.slice (some ⟨w.heap.size + 1, 0, none⟩) 1 1)).run Try.prog ((w.alloc o).alloc (.cells #[.int .u8 (IntKind.u8.wrap x)] 5)).drew = .ok (.string ⟨#[b]⟩) ((w.alloc o).alloc (.cells #[.int .u8 (IntKind.u8.wrap x)] 5)).drew := byte_next b x hx o w.drew

theorem two_new (w : World) (o o' : Obj) : ((w.alloc o).alloc o').drew.heap[w.heap.size + 1]? = some o' := by
  have h := heap_alloc_new (w.alloc o) o'
  show ((w.alloc o).alloc o').heap[w.heap.size + 1]? = some o'
  simpa using h
theorem two_old (w : World) (o o' : Obj) : ((w.alloc o).alloc o').drew.heap[w.heap.size]? = some o := by
  have h := (below_new (w.alloc o) o').block w.heap.size (by simp)
  exact h.trans (heap_alloc_new w o)
theorem one_new (w : World) (o : Obj) : (w.alloc o).drew.heap[w.heap.size]? = some o := heap_alloc_new w o

theorem byte_in {w : World} {b : Nat} {c : UInt8} {x : Int} (hx : IntKind.u8.wrap x = (c.toNat : Int)) (h : w.heap[b]? = some (.cells #[.int .u8 (IntKind.u8.wrap x)] 5)) :
    (convert 22 9 (.slice (some ⟨b, 0, none⟩) 1 1)).run Try.prog w = .ok (.string ⟨#[c]⟩) w := by
  refine byte_at c b w ?_
  rw [cell_of_row w b 0 _ 5 (0, 0) h, ← hx]
  rfl

theorem blk_new {w : World} {b : Nat} {o o' : Obj} (h : w.heap[b]? = some o) : (w.alloc o').heap[b]? = some o := by
  rcases Nat.lt_or_ge b w.heap.size with h1 | h1
  · exact ((below_new w o').block b h1).trans h
  · rw [Array.getElem?_eq_none h1] at h; cases h

theorem two_newp (w : World) (o o' : Obj) : ((w.alloc o).alloc o').heap[w.heap.size + 1]? = some o' := two_new w o o'
theorem two_oldp (w : World) (o o' : Obj) : ((w.alloc o).alloc o').heap[w.heap.size]? = some o := two_old w o o'

theorem key_size (c : UInt8) {y : ByteArray} (hy : y.size ≤ 5) : (⟨#[c]⟩ ++ y : ByteArray).size ≤ 10 := by
  rw [ByteArray.size_append]
  have : (ByteArray.mk #[c]).size = 1 := rfl
  omega

theorem Kept.grown' {S : Nat → Prop} {w W w9 : World} {row : Option Nat} (h : Kept S w W) (hg : W.grownBy w9 row) (hr : ∀ k, row = some k → w.heap.size ≤ k) : Kept S w w9 :=
  ⟨hg.os.trans h.1, hg.tape.trans h.2.1, hg.output.trans h.2.2.1, Nat.le_trans h.2.2.2.1 hg.size, fun i hi hn => (hg.block i (Nat.lt_of_lt_of_le hi h.2.2.2.1) (fun e => by have := hr i e.symm; omega)).trans (h.2.2.2.2 i hi hn)⟩

/-- An item that is drawn so far. -/
def ItRel (a : Option Addr) (len cap g : Nat) (w1 : World) (p5 : Value) (wx : World) : Prop :=
  ∃ (X : Nat) (t : ByteArray), p5 = .pointer (some ⟨X, 0, none⟩) ∧ w1.heap.size ≤ X ∧ wx.heap[X]? = some (.cells #[.string t, .string ⟨#[]⟩, .int .i64 0] 33 (0, 0)) ∧ t.size ≤ 10 ∧ Cur a len cap g wx ∧ Kept (fun k => k = g) w1 wx

theorem rel_new {a : Option Addr} {len cap g : Nat} {w1 w3 : World} {t : ByteArray} (ht : t.size ≤ 10) (hc : Cur a len cap g w3) (hk : Kept (fun k => k = g) w1 w3) :
    ItRel a len cap g w1 (.pointer (some ⟨w3.heap.size, 0, none⟩)) (w3.alloc (Obj.cells #[.string t, .string ⟨#[]⟩, .int .i64 0] 33)) :=
  ⟨_, t, rfl, hk.2.2.2.1, heap_alloc_new w3 _, ht, hc.alloc _, hk.alloc _⟩

theorem rel_two {a : Option Addr} {len cap g : Nat} {w1 w3 : World} {t : ByteArray} {o : Obj} (ht : t.size ≤ 10) (hc : Cur a len cap g w3) (hk : Kept (fun k => k = g) w1 w3) :
    ItRel a len cap g w1 (.pointer (some ⟨w3.heap.size + 1, 0, none⟩)) ((w3.alloc o).alloc (Obj.cells #[.string t, .string ⟨#[]⟩, .int .i64 0] 33)) :=
  ⟨_, t, rfl, (by have := hk.2.2.2.1; omega), two_newp w3 _ _, ht, (hc.alloc _).alloc _, (hk.alloc _).alloc _⟩

theorem rel_old {a : Option Addr} {len cap g : Nat} {w1 w3 : World} {t : ByteArray} {o : Obj} (ht : t.size ≤ 10) (hc : Cur a len cap g w3) (hk : Kept (fun k => k = g) w1 w3) :
    ItRel a len cap g w1 (.pointer (some ⟨w3.heap.size, 0, none⟩)) ((w3.alloc (Obj.cells #[.string t, .string ⟨#[]⟩, .int .i64 0] 33)).alloc o) :=
  ⟨_, t, rfl, hk.2.2.2.1, two_oldp w3 _ _, ht, (hc.alloc _).alloc _, (hk.alloc _).alloc _⟩

theorem rel_set {a : Option Addr} {len cap g X : Nat} {w1 w3 : World} {t : ByteArray} (ht : t.size ≤ 10) (hc : Cur a len cap g w3) (hk : Kept (fun k => k = g) w1 w3) (hX : w1.heap.size ≤ X) (hg : g < w1.heap.size)
    (h : w3.heap[X]? = some (.cells #[.string ⟨#[]⟩, .string ⟨#[]⟩, .int .i64 0] 33 (0, 0))) :
    ItRel a len cap g w1 (.pointer (some ⟨X, 0, none⟩)) (((w3.setCell ⟨X, 0, none⟩ (.string t)).setCell ⟨X, 1, none⟩ (.string ⟨#[]⟩)).setCell ⟨X, 2, none⟩ (.int .i64 0)) :=
  ⟨_, t, rfl, hX, three_two (three_one (three_zero h _) _) _, ht, ((hc.kept (S := fun k => k = X) (Kept.set _ _ _ _ rfl) (by omega)).kept (S := fun k => k = X) (Kept.set _ _ _ _ rfl) (by omega)).kept (S := fun k => k = X) (Kept.set _ _ _ _ rfl) (by omega), ((hk.set_new hX _ _).set_new hX _ _).set_new hX _ _⟩

/-- What is drawn of a page. -/
def Drawn (g : Nat) (w : World) (e : Ending) (w' : World) : Prop :=
  (∃ d k Q, e = .returned d ∧ PageOwn w' w.heap.size d k Q ∧ Q.length ≤ 5 ∧ SmallI Q) ∧ Kept (fun k => k = g) w w'

theorem drawn_end {g P : Nat} {w wz : World} {k : Int} {v : Value} {L : List It} (hPR : w.heap.size < P) (hO : wz.ownsRow (P + 1) 33 3 v L.length (itsV L)) (hk : Kept (fun k => k = g) w wz) (h5 : L.length ≤ 5) (hs : SmallI L) :
    Drawn g w (.returned (.agg #[.int .i64 k, v])) ((wz.setCell ⟨w.heap.size, 0, none⟩ (.int .i64 k)).setCell ⟨w.heap.size, 1, none⟩ v) := by
  have h1 : ¬ v.ownBlock = some w.heap.size := fun e => by have := (hO.lt _ e).1; omega
  exact ⟨⟨_, k, L, rfl, ⟨v, rfl, own_lower (by omega) (ownsRow_setCell_other (a := ⟨w.heap.size, 1, none⟩) (ownsRow_setCell_other (a := ⟨w.heap.size, 0, none⟩) hO h1 _) h1 _)⟩, h5, hs⟩, (hk.set_new (Nat.le_refl _) _ _).set_new (Nat.le_refl _) _ _⟩

theorem drawn_new {g N : Nat} {w wz : World} {k : Int} {cs : Array Value} {L : List It} (hN0 : w.heap.size ≤ N) (hcs : cs.toList = itsV L) (hN : wz.heap.size = N) (hk : Kept (fun k => k = g) w wz) (h5 : L.length ≤ 5) (hs : SmallI L) :
    Drawn g w (.returned (.agg #[.int .i64 k, .slice (some ⟨N, 0, none⟩) L.length L.length])) (((wz.setCell ⟨w.heap.size, 0, none⟩ (.int .i64 k)).setCell ⟨w.heap.size, 1, none⟩ (.slice (some ⟨N, 0, none⟩) L.length L.length)).alloc (.cells cs 33)) := by
  have hz : cs.size = L.length * 3 := by rw [← itsV_length, ← hcs, Array.length_toList]
  have hb := heap_alloc_new ((wz.setCell ⟨w.heap.size, 0, none⟩ (.int .i64 k)).setCell ⟨w.heap.size, 1, none⟩ (.slice (some ⟨N, 0, none⟩) L.length L.length)) (.cells cs 33)
  have he : ((wz.setCell ⟨w.heap.size, 0, none⟩ (.int .i64 k)).setCell ⟨w.heap.size, 1, none⟩ (.slice (some ⟨N, 0, none⟩) L.length L.length)).heap.size = N := by simp [World.setCell, hN]
  rw [he] at hb
  refine ⟨⟨_, k, L, rfl, ⟨_, rfl, itsV_length L, .inr ⟨N, L.length, cs, rfl, hN0, hb, Nat.le_refl _, (by unfold maxLen; omega), hz, ?_⟩⟩, h5, hs⟩, ((hk.set_new (Nat.le_refl _) _ _).set_new (Nat.le_refl _) _ _).alloc _⟩
  rw [← hcs, List.take_of_length_le (by rw [Array.length_toList, hz]; exact Nat.le_refl _)]

theorem itsV_set0 (Q : List It) (k : Nat) (h : k < Q.length) {y : ByteArray} : (itsV Q).set (k * 3) (.string y) = itsV (Q.set k ⟨y, Q[k].val, Q[k].pg⟩) := by
  induction Q generalizing k with
  | nil => simp at h
  | cons q Q ih =>
    cases k with
    | zero => simp [itsV]
    | succ k =>
      have := ih k (by simpa using h)
      have e : (k + 1) * 3 = k * 3 + 3 := by omega
      simpa [itsV, e] using this

theorem itsV_set1 (Q : List It) (k : Nat) (h : k < Q.length) {y : ByteArray} : (itsV Q).set (k * 3 + 1) (.string y) = itsV (Q.set k ⟨Q[k].key, y, Q[k].pg⟩) := by
  induction Q generalizing k with
  | nil => simp at h
  | cons q Q ih =>
    cases k with
    | zero => simp [itsV]
    | succ k =>
      have := ih k (by simpa using h)
      have e : (k + 1) * 3 = k * 3 + 3 := by omega
      simpa [itsV, e] using this

theorem itsV_set2 (Q : List It) (k : Nat) (h : k < Q.length) {y : Int} : (itsV Q).set (k * 3 + 2) (.int .i64 y) = itsV (Q.set k ⟨Q[k].key, Q[k].val, y⟩) := by
  induction Q generalizing k with
  | nil => simp at h
  | cons q Q ih =>
    cases k with
    | zero => simp [itsV]
    | succ k =>
      have := ih k (by simpa using h)
      have e : (k + 1) * 3 = k * 3 + 3 := by omega
      simpa [itsV, e] using this

theorem small_set {L : List It} {j : Nat} {x : It} (h : SmallI L) (hx : x.key.size ≤ 100 ∧ x.val.size ≤ 100) : SmallI (L.set j x) := by
  intro q hq
  rcases List.mem_or_eq_of_mem_set hq with h1 | h1
  · exact h q h1
  · subst h1; exact hx

theorem own_row {w : World} {B i C : Nat} {A : Option Addr} {xs : List Value} (h : w.ownsRow B 33 3 (.slice A i C) i xs) (hi : 1 ≤ i) : ∃ gA, A = some ⟨gA, 0, none⟩ := by
  rcases h.2 with ⟨_, h2⟩ | ⟨gA, cp, cur, he, _⟩
  · omega
  · simp at he; exact ⟨gA, he.1⟩

/-- A cell of an item in a row. -/
theorem own_cell {w : World} {B i C gA j : Nat} {L : List It} (h : w.ownsRow B 33 3 (.slice (some ⟨gA, 0, none⟩) i C) i (itsV L)) (hj : j < L.length) (c : Nat) (hc : c < 3) :
    (∃ v, w.cell? ⟨gA, j * 3 + c, none⟩ = some v) ∧ w.frozen? ⟨gA, j * 3 + c, none⟩ = false := by
  have hl : i * 3 = L.length * 3 := by rw [← h.1]; exact itsV_length L
  have hh : j * 3 + c < (itsV L).length := by rw [itsV_length]; omega
  exact ⟨⟨_, by rw [h.cellAt (j * 3 + c) (by omega)]; exact List.getElem?_eq_getElem hh⟩, h.frozenAt _⟩

set_option maxRecDepth 100000 in
set_option maxHeartbeats 8000000 in
theorem l04Page_any (a : Option Addr) (len cap g B : Nat) (hl : len ≤ 1048576) (hB : B ≤ g) (w : World) (hc : Cur a len cap g w) (hd : Code a len B w) :
    Calls Try.prog 26 #[.pointer (some ⟨g, 0, none⟩)] w fun e w' => Drawn g w e w' := by
  obtain ⟨i1, hj1, hy0, hy1, hy2⟩ := info_parts infoItem
  have hgl := hc.lt
  have BEL := hide (fun (n : Int) (hn : 0 < n) W (hc : Cur a len cap g W) (hd : Code a len B W) => below_any a len cap g B n hl hB hn W hc hd)
  have KEY := hide (fun W (hc : Cur a len cap g W) (hd : Code a len B W) => l04Key_any a len cap g B hl hB W hc hd)
  have TXT := hide (fun (n : Nat) (hn : n ≤ 5000) W (hc : Cur a len cap g W) (hd : Code a len B W) => text_kept a len cap g B n hl hB hn W hc.lt hc hd)
  have HC := hide hc
  have HD := hide hd
  clear hc hd
  go_enter Try.func26, Try.ntmps26
  go_wp2_with fail
  have hbn := below_new w (Obj.cells #[Value.int .i64 0, Value.slice none 0 0] 26)
  refine (unhide BEL 2 (by omega) _ ((unhide HC).alloc _) ((unhide HD).alloc _)).mono ?_
  rintro e w1 ⟨x, rfl, hx0, hx1, hc1, hg1⟩
  have HR : Hid (Box w1 w.heap.size (.int .i64 0) (.slice none 0 0)) := (Box.new w _ _).kept (grown_kept hg1) (by omega)
  have HC := hide hc1
  have HK : Hid (Kept (fun k => k = g) w w1) := (Kept.of_below hbn).trans (grown_kept hg1)
  have HD0 := hide (unhide HD)
  clear hc1 hg1 hbn
  go_wp2_with fail
  obtain ⟨W2, hW2⟩ : ∃ W, W = w1.alloc (Obj.cells #[Value.int .i64 (1 + x), Value.slice none 0 0] 26) := ⟨_, rfl⟩
  rw [← hW2]
  have hb2 : Below w1.heap.size w1 W2 := by rw [hW2]; exact below_new _ _
  have HP : Hid (Box W2 w1.heap.size (.int .i64 (1 + x)) (.slice none 0 0)) := by show Box _ _ _ _; rw [hW2]; exact Box.new _ _ _
  have HC : Hid (Cur a len cap g W2) := by show Cur _ _ _ _ _; rw [hW2]; exact (unhide HC).alloc _
  have hPR : w.heap.size < w1.heap.size := (unhide HR).lt
  have HR := hide ((unhide HR).below hb2)
  have HK := hide ((unhide HK).trans (Kept.of_below hb2))
  obtain ⟨P, hP⟩ : ∃ P, P = w1.heap.size := ⟨_, rfl⟩
  rw [← hP] at HP hPR ⊢
  clear hW2 hb2 hP
  obtain ⟨kk, hkk⟩ : ∃ kk, kk = 1 + x := ⟨_, rfl⟩
  have hk12 : kk = 1 ∨ kk = 2 := by omega
  rw [← hkk] at HP
  (try rw [← hkk])
  clear hkk hx0 hx1
  go_loopw [4] (fun a4 wr => ∃ (i : Nat) (L : List It) (A : Option Addr) (C : Nat), a4 = .int .i64 (i : Int) ∧ i ≤ 5 ∧ L.length = i ∧ SmallI L ∧ Cur a len cap g wr ∧
      Box wr P (.int .i64 kk) (.slice A i C) ∧ wr.ownsRow (P + 1) 33 3 (.slice A i C) i (itsV L) ∧ Box wr w.heap.size (.int .i64 0) (.slice none 0 0) ∧ Kept (fun k => k = g) w wr) (fun a4 _ => 5 - (intOf a4).toNat)
  case atStart =>
    exact ⟨0, [], none, 0, rfl, Nat.zero_le _, rfl, fun x hx => (by simp at hx), unhide HC, unhide HP, ⟨rfl, .inl ⟨rfl, rfl⟩⟩, unhide HR, unhide HK⟩
  case round =>
    obtain ⟨i, L, A, C, rfl, hi5, hLL, hsm, hcu, hP, hO, hR, hK⟩ := hrel
    have HLL := hide hLL
    have HSM := hide hsm
    have HC := hide hcu
    have HP := hide hP
    have HO := hide hO
    have HR := hide hR
    have HK := hide hK
    clear hLL hsm hcu hP hO hR hK
    go_wp2_with fail
    refine (unhide BEL 5 (by omega) _ (unhide HC) ((unhide HD0).kept hB (by omega) (unhide HK))).mono ?_
    rintro e w1 ⟨y, rfl, hy0', hy1', hc1, hg1⟩
    have hkg := grown_kept hg1
    have HC := hide hc1
    have HP := hide ((unhide HP).kept hkg (by omega))
    have HR := hide ((unhide HR).kept hkg (by omega))
    have HO := hide (hkg.own (unhide HO) (fun k hk e => by have := (unhide HO).lt k hk; omega))
    have HK := hide ((unhide HK).trans hkg)
    clear hc1 hg1 hkg
    by_cases hlt : (i : Int) < 1 + y
    · have HCD := hide ((unhide HD0).kept hB (by omega) (unhide HK))
      have hb97 : IntKind.u8.wrap (97 + (i : Int)) = ((UInt8.ofNat (97 + i)).toNat : Int) := by
        rw [toNat_ofNat_small _ (by omega), IntWalk.u8_in _ ⟨by omega, by omega⟩]; omega
      have hw97 : IntKind.i64.wrap (97 + (i : Int)) = 97 + (i : Int) := IntWalk.i64_in _ ⟨by omega, by omega⟩
      have F1 := byte_row_wrap (UInt8.ofNat (97 + i)) (97 + (i : Int)) hb97
      have F1d := byte_row_drew (UInt8.ofNat (97 + i)) (97 + (i : Int)) hb97
      have F2 := byte_two (UInt8.ofNat (97 + i)) (97 + (i : Int)) hb97 (Obj.cells #[Value.string ⟨#[]⟩, Value.string ⟨#[]⟩, Value.int .i64 0] 33)
      have F2d := byte_two_drew (UInt8.ofNat (97 + i)) (97 + (i : Int)) hb97 (Obj.cells #[Value.string ⟨#[]⟩, Value.string ⟨#[]⟩, Value.int .i64 0] 33)
      have F3 := byte_next (UInt8.ofNat (97 + i)) (97 + (i : Int)) hb97 (Obj.cells #[Value.string ⟨#[]⟩, Value.string ⟨#[]⟩, Value.int .i64 0] 33)
      have F3d := byte_next_drew (UInt8.ofNat (97 + i)) (97 + (i : Int)) hb97 (Obj.cells #[Value.string ⟨#[]⟩, Value.string ⟨#[]⟩, Value.int .i64 0] 33)
      have HB97 := hide hb97
      have hgw : g < w1.heap.size := (unhide HC).lt
      have HPL := hide (unhide HP).lt
      clear hb97
      go_upto_region 5 with fail
      go_cut [5] (fun p5 wx => ItRel a len cap g w1 p5 wx)
      case first =>
        go_region_with
          (first
            | (go_at_call 54; refine (unhide KEY ((w1.alloc (Obj.cells #[Value.int .u8 (IntKind.u8.wrap (97 + (i : Int)))] 5)).alloc (Obj.cells #[Value.string ⟨#[]⟩, Value.string ⟨#[]⟩, Value.int .i64 0] 33)).drew (((unhide HC).alloc _).alloc _) (((unhide HCD).alloc _).alloc _)).mono ?_; rintro e w3 ⟨⟨y, rfl, hy⟩, hc3, hk3⟩; have hcat : ¬ 9223372036854775807 < 1 + y.size := (by omega); have HC3 := hide hc3; have HK3 : Hid (Kept (fun k => k = g) w1 w3) := ((Kept.of_below (below_new w1 (Obj.cells #[Value.int .u8 (IntKind.u8.wrap (97 + (i : Int)))] 5))).trans (Kept.of_below (below_new _ (Obj.cells #[Value.string ⟨#[]⟩, Value.string ⟨#[]⟩, Value.int .i64 0] 33)))).trans hk3; clear hc3; have hcw := byte_in (unhide HB97) (hk3.blk (two_old w1 _ _) (by omega)); have hcw2 := byte_in (unhide HB97) (blk_new (o' := (Obj.cells #[Value.string ⟨#[]⟩, Value.string ⟨#[]⟩, Value.int .i64 0] 33)) (hk3.blk (two_old w1 _ _) (by omega))); have hX3 := hk3.blk (two_new w1 _ _) (by omega); have HX3 := hide hX3; obtain ⟨x0, x1, x2, xf⟩ := cells_of_three hX3; have xf0 := xf 0; have xf1 := xf 1; have xf2 := xf 2; have hX4 := blk_new (o' := (Obj.cells #[Value.int .u8 (IntKind.u8.wrap (97 + (i : Int)))] 5)) hX3; obtain ⟨z0, z1, z2, zf⟩ := cells_of_three hX4; have zf0 := zf 0; have zf1 := zf 1; have zf2 := zf 2; clear xf zf hX3 hX4)
            | (go_at_call 54; refine (unhide KEY ((w1.alloc (Obj.cells #[Value.string ⟨#[]⟩, Value.string ⟨#[]⟩, Value.int .i64 0] 33)).alloc (Obj.cells #[Value.int .u8 (IntKind.u8.wrap (97 + (i : Int)))] 5)).drew (((unhide HC).alloc _).alloc _) (((unhide HCD).alloc _).alloc _)).mono ?_; rintro e w3 ⟨⟨y, rfl, hy⟩, hc3, hk3⟩; have hcat : ¬ 9223372036854775807 < 1 + y.size := (by omega); have HC3 := hide hc3; have HK3 : Hid (Kept (fun k => k = g) w1 w3) := ((Kept.of_below (below_new w1 (Obj.cells #[Value.string ⟨#[]⟩, Value.string ⟨#[]⟩, Value.int .i64 0] 33))).trans (Kept.of_below (below_new _ (Obj.cells #[Value.int .u8 (IntKind.u8.wrap (97 + (i : Int)))] 5)))).trans hk3; clear hc3; have hcw := byte_in (unhide HB97) (hk3.blk (two_new w1 _ _) (by omega)); have hcw2 := byte_in (unhide HB97) (blk_new (o' := (Obj.cells #[Value.string ⟨#[]⟩, Value.string ⟨#[]⟩, Value.int .i64 0] 33)) (hk3.blk (two_new w1 _ _) (by omega))); have hX3 := hk3.blk (two_old w1 _ _) (by omega); have HX3 := hide hX3; obtain ⟨x0, x1, x2, xf⟩ := cells_of_three hX3; have xf0 := xf 0; have xf1 := xf 1; have xf2 := xf 2; have hX4 := blk_new (o' := (Obj.cells #[Value.int .u8 (IntKind.u8.wrap (97 + (i : Int)))] 5)) hX3; obtain ⟨z0, z1, z2, zf⟩ := cells_of_three hX4; have zf0 := zf 0; have zf1 := zf 1; have zf2 := zf 2; clear xf zf hX3 hX4)
            | (go_at_call 54; refine (unhide KEY (w1.alloc (Obj.cells #[Value.int .u8 (IntKind.u8.wrap (97 + (i : Int)))] 5)).drew ((unhide HC).alloc _) ((unhide HCD).alloc _)).mono ?_; rintro e w3 ⟨⟨y, rfl, hy⟩, hc3, hk3⟩; have hcat : ¬ 9223372036854775807 < 1 + y.size := (by omega); have HC3 := hide hc3; have HK3 : Hid (Kept (fun k => k = g) w1 w3) := (Kept.of_below (below_new w1 (Obj.cells #[Value.int .u8 (IntKind.u8.wrap (97 + (i : Int)))] 5))).trans hk3; clear hc3; have hcw := byte_in (unhide HB97) (hk3.blk (one_new w1 _) (by omega)); have hcw2 := byte_in (unhide HB97) (blk_new (o' := (Obj.cells #[Value.string ⟨#[]⟩, Value.string ⟨#[]⟩, Value.int .i64 0] 33)) (hk3.blk (one_new w1 _) (by omega))))
            | (go_at_call 54; refine (unhide KEY (w1.alloc (Obj.cells #[Value.string ⟨#[]⟩, Value.string ⟨#[]⟩, Value.int .i64 0] 33)).drew ((unhide HC).alloc _) ((unhide HCD).alloc _)).mono ?_; rintro e w3 ⟨⟨y, rfl, hy⟩, hc3, hk3⟩; have hcat : ¬ 9223372036854775807 < 1 + y.size := (by omega); have HC3 := hide hc3; have HK3 : Hid (Kept (fun k => k = g) w1 w3) := (Kept.of_below (below_new w1 (Obj.cells #[Value.string ⟨#[]⟩, Value.string ⟨#[]⟩, Value.int .i64 0] 33))).trans hk3; clear hc3; have hX3 := hk3.blk (one_new w1 _) (by omega); have HX3 := hide hX3; obtain ⟨x0, x1, x2, xf⟩ := cells_of_three hX3; have xf0 := xf 0; have xf1 := xf 1; have xf2 := xf 2; have hX4 := blk_new (o' := (Obj.cells #[Value.int .u8 (IntKind.u8.wrap (97 + (i : Int)))] 5)) hX3; obtain ⟨z0, z1, z2, zf⟩ := cells_of_three hX4; have zf0 := zf 0; have zf1 := zf 1; have zf2 := zf 2; clear xf zf hX3 hX4)
            | (go_at_call 54; refine (unhide KEY w1.drew (unhide HC) (unhide HCD)).mono ?_; rintro e w3 ⟨⟨y, rfl, hy⟩, hc3, hk3⟩; have hcat : ¬ 9223372036854775807 < 1 + y.size := (by omega); have HC3 := hide hc3; have HK3 : Hid (Kept (fun k => k = g) w1 w3) := hk3; clear hc3))
        all_goals
          go_wp2_with fail
          go_meet
          case rel =>
            first
              | exact rel_new (key_size _ hy) (unhide HC3) (unhide HK3)
              | exact rel_two (key_size _ hy) (unhide HC3) (unhide HK3)
              | exact rel_old (key_size _ hy) (unhide HC3) (unhide HK3)
              | exact rel_set (key_size _ hy) (unhide HC3) (unhide HK3) (by omega) hgw (unhide HX3)
              | exact rel_set (key_size _ hy) ((unhide HC3).alloc _) ((unhide HK3).alloc _) (by omega) hgw (blk_new (unhide HX3))
      case rest =>
        obtain ⟨X, t, rfl, hX1, hX, ht, hcx, hkx⟩ := hcut
        have HX := hide hX
        have HC := hide hcx
        have HP := hide ((unhide HP).kept hkx (by omega))
        have HR := hide ((unhide HR).kept hkx (by omega))
        have HOL := hide (unhide HO).lt
        have HO := hide (hkx.own (unhide HO) (fun k hk e => by have := unhide HOL k hk; omega))
        have HK := hide ((unhide HK).trans hkx)
        have hPX : P < X := Nat.lt_of_lt_of_le (unhide HPL) hX1
        have hRX : w.heap.size < X := by omega
        have hXn : ∀ k, (Value.slice A i C).ownBlock = some k → k ≠ X := fun k hk e => by have := unhide HOL k hk; omega
        have hgX : g ≠ X := by omega
        obtain ⟨g0, g1⟩ := (unhide HP).cells
        clear hX hcx hkx F1 F1d F2 F2d F3 F3d hw97 HB97 hX1 HOL HCD hgw
        rcases hk12 with rfl | rfl
        · go_wp2_with fail
          refine (unhide BEL 6 (by omega) _ (unhide HC) ((unhide HD0).kept hB (by omega) (unhide HK))).mono ?_
          rintro e w4 ⟨z, rfl, hz0, hz1, hc4, hg4⟩
          obtain ⟨zn, rfl⟩ := Int.eq_ofNat_of_zero_le hz0
          have hk4 := grown_kept hg4
          clear hg4
          have HC := hide hc4
          have HX := hide (hk4.blk (unhide HX) (by omega))
          have HP := hide ((unhide HP).kept hk4 (by omega))
          have HR := hide ((unhide HR).kept hk4 (by omega))
          have HO := hide (hk4.own (unhide HO) (fun k hk e => by have := (unhide HO).lt k hk; omega))
          have HK := hide ((unhide HK).trans hk4)
          clear hc4 hk4 g0 g1
          obtain ⟨g0, g1⟩ := (unhide HP).cells
          go_wp2_with fail
          refine (unhide TXT zn (by omega) _ (unhide HC) ((unhide HD0).kept hB (by omega) (unhide HK))).mono ?_
          rintro e w5 ⟨⟨u, rfl, hu⟩, hc5, hk5⟩
          have HC := hide hc5
          have HX := hide (hk5.blk (unhide HX) (by omega))
          have HP := hide ((unhide HP).kept hk5 (by omega))
          have HR := hide ((unhide HR).kept hk5 (by omega))
          have HO := hide (hk5.own (unhide HO) (fun k hk e => by have := (unhide HO).lt k hk; omega))
          have HK := hide ((unhide HK).trans hk5)
          clear hc5 hk5 g0 g1
          obtain ⟨g0, g1⟩ := (unhide HP).cells
          obtain ⟨x0, x1, x2, xf⟩ := cells_of_three (unhide HX)
          have xf1 := xf 1
          have xf2 := xf 2
          have hGX1 : ¬ P = X := by omega
          have hGX2 : ¬ X = P := by omega
          clear xf
          have hnews : ∀ j uu, [Value.string t, .string u, .int .i64 0][j]? = some uu → ((w5.setCell ⟨X, 1, none⟩ (.string u)).alloc (Obj.cells #[Value.string t, Value.string u, Value.int .i64 0] 33)).cell? ((⟨w5.heap.size, 0, none⟩ : Addr).add j) = some uu := by
            have h := World.news_of_block (cs := #[Value.string t, Value.string u, Value.int .i64 0]) (t := 33) (fr := (0, 0)) (heap_alloc_new ((w5.setCell ⟨X, 1, none⟩ (.string u))) (Obj.cells #[Value.string t, Value.string u, Value.int .i64 0] 33))
            simpa [World.setCell] using h
          have HNW := hide hnews
          have HOS : Hid (((w5.setCell ⟨X, 1, none⟩ (.string u)).alloc (Obj.cells #[Value.string t, Value.string u, Value.int .i64 0] 33)).ownsRow (P + 1) 33 3 (.slice A i C) i (itsV L)) := (ownsRow_setCell_other (unhide HO) (fun e => hXn _ e rfl) _).alloc _
          have hkS : Kept (fun k => k = X) w5 (w5.setCell ⟨X, 1, none⟩ (.string u)) := Kept.set _ _ _ _ rfl
          have HGS : Hid (Box ((w5.setCell ⟨X, 1, none⟩ (.string u)).alloc (Obj.cells #[Value.string t, Value.string u, Value.int .i64 0] 33)) P (.int .i64 1) (.slice A i C)) := ((unhide HP).kept hkS (by omega)).below (below_new _ _)
          have HRS : Hid (Box ((w5.setCell ⟨X, 1, none⟩ (.string u)).alloc (Obj.cells #[Value.string t, Value.string u, Value.int .i64 0] 33)) w.heap.size (.int .i64 0) (.slice none 0 0)) := ((unhide HR).kept hkS (by omega)).below (below_new _ _)
          have HKS : Hid (Kept (fun k => k = g) w ((w5.setCell ⟨X, 1, none⟩ (.string u)).alloc (Obj.cells #[Value.string t, Value.string u, Value.int .i64 0] 33))) := ((unhide HK).set_new (by omega) _ _).alloc _
          have HCS : Hid (Cur a len cap g ((w5.setCell ⟨X, 1, none⟩ (.string u)).alloc (Obj.cells #[Value.string t, Value.string u, Value.int .i64 0] 33))) := ((unhide HC).kept hkS (by omega)).alloc _
          have hPl6 := (unhide HP).lt
          have hjm : i + 1 ≤ maxLen := by unfold maxLen; omega
          clear hnews hkS
          go_wp2_with (at_builtin; refine wpList_append_lies _ rfl _ _ 24 rfl (P + 1) 33 i1 (.agg #[.string ⟨#[]⟩, .string ⟨#[]⟩, .int .i64 0]) 3 40 Try.underlying24 hj1 hy0 hy1 hy2 rfl (by decide) _ i (itsV L) rfl (unhide HOS) ⟨w5.heap.size, 0, none⟩ 1 1 [.string t, .string u, .int .i64 0] rfl rfl (unhide HNW) (by simp [Value.oneCell']) (by omega) hjm (by omega) (by simp [World.setCell]; omega) (w5.heap.size + 1) (by simp [World.setCell]) ?_)
          intro g9 cap9 w9 hown9 hgrow9 hat9 hlt9
          have hG9 := grown_box (unhide HGS) hgrow9 (fun e => by have := (unhide HOS).lt _ e; omega)
          have t0 := hG9.cells.2
          have tf := hG9.froz 1
          have hap := append_page (x := ⟨t, u, 0⟩) (w := (w5.setCell ⟨X, 1, none⟩ (.string u)).alloc (Obj.cells #[Value.string t, Value.string u, Value.int .i64 0] 33)) (unhide HGS) (unhide HRS) hPR (Nat.le_refl _) (unhide HOS) (Below.refl _ _) hgrow9 hown9 hat9
          have HAP := hide (And.intro hap.1 (And.intro hap.2.1 hap.2.2.1))
          have hrow : ∀ k, (Value.slice A i C).ownBlock = some k → P + 1 ≤ k := fun k hk => ((unhide HOS).lt k hk).1
          have HK9 : Hid (Kept (fun k => k = g) w (w9.setCell ⟨P, 1, none⟩ (.slice (some ⟨g9, 0, none⟩) (i + 1) cap9))) := ((unhide HKS).grown' hgrow9 (fun k hk => by have := hrow k hk; omega)).set_new (X := P) (by omega) _ _
          have HC9 : Hid (Cur a len cap g (w9.setCell ⟨P, 1, none⟩ (.slice (some ⟨g9, 0, none⟩) (i + 1) cap9))) := ((unhide HCS).kept (Kept.of_grown hgrow9) (fun e => by have := hrow _ e; omega)).kept (S := fun k => k = P) (Kept.set _ _ _ _ rfl) (by omega)
          clear hap hrow hG9 hown9 hgrow9 hat9 hlt9 HOS HGS HRS HKS HNW HCS
          go_wp2
          go_roundw
          case rel =>
            obtain ⟨z1, z2, z3⟩ := unhide HAP
            refine ⟨i + 1, L ++ [⟨t, u, 0⟩], _, _, by go_num, by omega, (by simp; exact unhide HLL), ?_, unhide HC9, z1, z2, z3, unhide HK9⟩
            intro q hq
            rcases List.mem_append.1 hq with h | h
            · exact unhide HSM q h
            · simp at h
              subst h
              exact ⟨by simp only; omega, by simp only; omega⟩
          case measure => simp [intOf]; omega
        · go_wp2_with fail
          refine (unhide BEL 300 (by omega) _ (unhide HC) ((unhide HD0).kept hB (by omega) (unhide HK))).mono ?_
          rintro e w5 ⟨z, rfl, hz0, hz1, hc5, hg5⟩
          have hk5 := grown_kept hg5
          clear hg5
          have HC := hide hc5
          have HX := hide (hk5.blk (unhide HX) (by omega))
          have HP := hide ((unhide HP).kept hk5 (by omega))
          have HR := hide ((unhide HR).kept hk5 (by omega))
          have HO := hide (hk5.own (unhide HO) (fun k hk e => by have := (unhide HO).lt k hk; omega))
          have HK := hide ((unhide HK).trans hk5)
          clear hc5 hk5 g0 g1
          obtain ⟨g0, g1⟩ := (unhide HP).cells
          obtain ⟨x0, x1, x2, xf⟩ := cells_of_three (unhide HX)
          have xf1 := xf 1
          have xf2 := xf 2
          have hGX1 : ¬ P = X := by omega
          have hGX2 : ¬ X = P := by omega
          clear xf
          have hnews : ∀ j uu, [Value.string t, .string ⟨#[]⟩, .int .i64 z][j]? = some uu → ((w5.setCell ⟨X, 2, none⟩ (.int .i64 z)).alloc (Obj.cells #[Value.string t, Value.string ⟨#[]⟩, Value.int .i64 z] 33)).cell? ((⟨w5.heap.size, 0, none⟩ : Addr).add j) = some uu := by
            have h := World.news_of_block (cs := #[Value.string t, Value.string ⟨#[]⟩, Value.int .i64 z]) (t := 33) (fr := (0, 0)) (heap_alloc_new ((w5.setCell ⟨X, 2, none⟩ (.int .i64 z))) (Obj.cells #[Value.string t, Value.string ⟨#[]⟩, Value.int .i64 z] 33))
            simpa [World.setCell] using h
          have HNW := hide hnews
          have HOS : Hid (((w5.setCell ⟨X, 2, none⟩ (.int .i64 z)).alloc (Obj.cells #[Value.string t, Value.string ⟨#[]⟩, Value.int .i64 z] 33)).ownsRow (P + 1) 33 3 (.slice A i C) i (itsV L)) := (ownsRow_setCell_other (unhide HO) (fun e => hXn _ e rfl) _).alloc _
          have hkS : Kept (fun k => k = X) w5 (w5.setCell ⟨X, 2, none⟩ (.int .i64 z)) := Kept.set _ _ _ _ rfl
          have HGS : Hid (Box ((w5.setCell ⟨X, 2, none⟩ (.int .i64 z)).alloc (Obj.cells #[Value.string t, Value.string ⟨#[]⟩, Value.int .i64 z] 33)) P (.int .i64 2) (.slice A i C)) := ((unhide HP).kept hkS (by omega)).below (below_new _ _)
          have HRS : Hid (Box ((w5.setCell ⟨X, 2, none⟩ (.int .i64 z)).alloc (Obj.cells #[Value.string t, Value.string ⟨#[]⟩, Value.int .i64 z] 33)) w.heap.size (.int .i64 0) (.slice none 0 0)) := ((unhide HR).kept hkS (by omega)).below (below_new _ _)
          have HKS : Hid (Kept (fun k => k = g) w ((w5.setCell ⟨X, 2, none⟩ (.int .i64 z)).alloc (Obj.cells #[Value.string t, Value.string ⟨#[]⟩, Value.int .i64 z] 33))) := ((unhide HK).set_new (by omega) _ _).alloc _
          have HCS : Hid (Cur a len cap g ((w5.setCell ⟨X, 2, none⟩ (.int .i64 z)).alloc (Obj.cells #[Value.string t, Value.string ⟨#[]⟩, Value.int .i64 z] 33))) := ((unhide HC).kept hkS (by omega)).alloc _
          have hPl6 := (unhide HP).lt
          have hjm : i + 1 ≤ maxLen := by unfold maxLen; omega
          clear hnews hkS
          go_wp2_with (at_builtin; refine wpList_append_lies _ rfl _ _ 24 rfl (P + 1) 33 i1 (.agg #[.string ⟨#[]⟩, .string ⟨#[]⟩, .int .i64 0]) 3 40 Try.underlying24 hj1 hy0 hy1 hy2 rfl (by decide) _ i (itsV L) rfl (unhide HOS) ⟨w5.heap.size, 0, none⟩ 1 1 [.string t, .string ⟨#[]⟩, .int .i64 z] rfl rfl (unhide HNW) (by simp [Value.oneCell']) (by omega) hjm (by omega) (by simp [World.setCell]; omega) (w5.heap.size + 1) (by simp [World.setCell]) ?_)
          intro g9 cap9 w9 hown9 hgrow9 hat9 hlt9
          have hG9 := grown_box (unhide HGS) hgrow9 (fun e => by have := (unhide HOS).lt _ e; omega)
          have t0 := hG9.cells.2
          have tf := hG9.froz 1
          have hap := append_page (x := ⟨t, ⟨#[]⟩, z⟩) (w := (w5.setCell ⟨X, 2, none⟩ (.int .i64 z)).alloc (Obj.cells #[Value.string t, Value.string ⟨#[]⟩, Value.int .i64 z] 33)) (unhide HGS) (unhide HRS) hPR (Nat.le_refl _) (unhide HOS) (Below.refl _ _) hgrow9 hown9 hat9
          have HAP := hide (And.intro hap.1 (And.intro hap.2.1 hap.2.2.1))
          have hrow : ∀ k, (Value.slice A i C).ownBlock = some k → P + 1 ≤ k := fun k hk => ((unhide HOS).lt k hk).1
          have HK9 : Hid (Kept (fun k => k = g) w (w9.setCell ⟨P, 1, none⟩ (.slice (some ⟨g9, 0, none⟩) (i + 1) cap9))) := ((unhide HKS).grown' hgrow9 (fun k hk => by have := hrow k hk; omega)).set_new (X := P) (by omega) _ _
          have HC9 : Hid (Cur a len cap g (w9.setCell ⟨P, 1, none⟩ (.slice (some ⟨g9, 0, none⟩) (i + 1) cap9))) := ((unhide HCS).kept (Kept.of_grown hgrow9) (fun e => by have := hrow _ e; omega)).kept (S := fun k => k = P) (Kept.set _ _ _ _ rfl) (by omega)
          clear hap hrow hG9 hown9 hgrow9 hat9 hlt9 HOS HGS HRS HKS HNW HCS
          go_wp2
          go_roundw
          case rel =>
            obtain ⟨z1, z2, z3⟩ := unhide HAP
            refine ⟨i + 1, L ++ [⟨t, ⟨#[]⟩, z⟩], _, _, by go_num, by omega, (by simp; exact unhide HLL), ?_, unhide HC9, z1, z2, z3, unhide HK9⟩
            intro q hq
            rcases List.mem_append.1 hq with h | h
            · exact unhide HSM q h
            · simp at h
              subst h
              exact ⟨by simp only; omega, by simp [ByteArray.size]⟩
          case measure => simp [intOf]; omega
    · obtain ⟨g0, g1⟩ := (unhide HP).cells
      have hi1 : 1 ≤ i := by omega
      go_wp2_with fail
      refine (unhide BEL (i : Int) (by omega) _ (unhide HC) ((unhide HD0).kept hB (by omega) (unhide HK))).mono ?_
      rintro e w2 ⟨jx, rfl, hj0, hj2, hc2, hg2⟩
      obtain ⟨j, rfl⟩ := Int.eq_ofNat_of_zero_le hj0
      clear g0 g1
      have hkk := grown_kept hg2
      clear hg2
      have HC := hide hc2
      have HP := hide ((unhide HP).kept hkk (by omega))
      have HR := hide ((unhide HR).kept hkk (by omega))
      have HO := hide (hkk.own (unhide HO) (fun k hk e => by have := (unhide HO).lt k hk; omega))
      have HK := hide ((unhide HK).trans hkk)
      clear hc2 hkk
      go_wp2_with fail
      refine (unhide BEL 30 (by omega) _ (unhide HC) ((unhide HD0).kept hB (by omega) (unhide HK))).mono ?_
      rintro e w3 ⟨z, rfl, hz0, hz1, hc3, hg3⟩
      have hkk := grown_kept hg3
      clear hg3
      have HC := hide hc3
      have HP := hide ((unhide HP).kept hkk (by omega))
      have HR := hide ((unhide HR).kept hkk (by omega))
      have HO := hide (hkk.own (unhide HO) (fun k hk e => by have := (unhide HO).lt k hk; omega))
      have HK := hide ((unhide HK).trans hkk)
      clear hc3 hkk
      clear hlt hy0' hy1'
      have HD3 := hide ((unhide HD0).kept hB (by omega) (unhide HK))
      have hPR1 : ¬ P = w.heap.size := by omega
      have hPR2 : ¬ w.heap.size = P := by omega
      have hPl : P < w3.heap.size := (unhide HP).lt
      have hRl : w.heap.size < w3.heap.size := by omega
      have hgl3 : g < w3.heap.size := (unhide HC).lt
      have hgP : ¬ P = g := by omega
      obtain ⟨g0, g1⟩ := (unhide HP).cells
      have pf0 := (unhide HP).froz 0
      have pf1 := (unhide HP).froz 1
      obtain ⟨r0, r1⟩ := (unhide HR).cells
      have rf0 := (unhide HR).froz 0
      have rf1 := (unhide HR).froz 1
      by_cases z0 : z = 0
      · subst z0
        go_wp2_with fail
        refine (pickI_any a len cap g B w3.heap.size 4 [0, 3, 1, 2] (by omega) (by omega) rfl (by decide) hl hB (by omega) _ ((unhide HC).alloc _) ((unhide HD3).alloc _) (heap_alloc_new w3 _)).mono ?_
        rintro e w4 ⟨⟨yv, rfl, _, _⟩, hc4, hg4⟩
        have hk4 : Kept (fun k => k = g) w3 w4 := (Kept.of_below (below_new w3 _)).trans (grown_kept hg4)
        clear hg4
        clear g0 g1 pf0 pf1 r0 r1 rf0 rf1
        have HC := hide hc4
        have HP := hide ((unhide HP).kept hk4 (by omega))
        have HR := hide ((unhide HR).kept hk4 (by omega))
        have HO := hide (hk4.own (unhide HO) (fun k hk e => by have := (unhide HO).lt k hk; omega))
        have HK := hide ((unhide HK).trans hk4)
        clear hc4 hk4
        obtain ⟨g0, g1⟩ := (unhide HP).cells
        have pf0 := (unhide HP).froz 0
        have pf1 := (unhide HP).froz 1
        obtain ⟨r0, r1⟩ := (unhide HR).cells
        have rf0 := (unhide HR).froz 0
        have rf1 := (unhide HR).froz 1
        have HRz := hide ((unhide HR).kept (S := fun k => k = P) (Kept.set w4 P 0 (.int .i64 yv) rfl) (by omega))
        have HOz := hide (ownsRow_setCell_other (unhide HO) (fun e => by have := (unhide HO).lt P e; omega) (a := ⟨P, 0, none⟩) (.int .i64 yv))
        have HKz := hide ((unhide HK).set_new (X := P) (by omega) 0 (.int .i64 yv))
        go_wp2
        refine bodyPost_ret (results_cell_row Try.results26 _ _ w.heap.size _ _ _ _ rfl ((unhide HRz).two _ _) Try.underlying26 rfl (by kernel_rfl)) rfl ?_
        have e := unhide HLL
        exact drawn_end hPR (by rw [e]; exact unhide HOz) (unhide HKz) (by omega) (unhide HSM)
      by_cases z1 : z = 1
      · subst z1
        have HRz := hide ((unhide HR).kept (S := fun k => k = P) (Kept.set w3 P 1 (.slice (some ⟨w3.heap.size, 0, none⟩) 0 0) rfl) (by omega))
        have HKz := hide ((unhide HK).set_new (X := P) (by omega) 1 (.slice (some ⟨w3.heap.size, 0, none⟩) 0 0))
        go_wp2
        refine bodyPost_ret (results_cell_row Try.results26 _ _ w.heap.size _ _ _ _ rfl (((unhide HRz).two _ _).below (below_new _ _)) Try.underlying26 rfl (by kernel_rfl)) rfl ?_
        exact drawn_new (L := []) (by omega) rfl (by simp) (unhide HKz) (by simp) (fun x hx => by simp at hx)
      by_cases z2 : z = 2
      · subst z2
        obtain ⟨gA, rfl⟩ : ∃ gA, A = some ⟨gA, 0, none⟩ := own_row (unhide HO) hi1
        have hjl : j < L.length := by have := unhide HLL; omega
        go_upto_region 17 with fail
        go_region_with
          (go_at_call 57; refine (pickS_any a len cap g B w3.heap.size 3 [⟨#[]⟩, ⟨#[97]⟩, ⟨#[122, 122, 122, 122]⟩] (by omega) (by omega) rfl (by decide) hl hB (by omega) (w3.alloc (Obj.cells #[Value.string ⟨#[]⟩, Value.string ⟨#[97]⟩, Value.string ⟨#[122, 122, 122, 122]⟩] 9)).drew ((unhide HC).alloc _) ((unhide HD3).alloc _) (heap_alloc_new w3 _)).mono ?_; rintro e w4 ⟨⟨y, rfl, hy4⟩, hc4, hg4⟩; have hk3 := grown_kept hg4; have hk4 : Kept (fun k => k = g) w3 w4 := (Kept.of_below (below_new w3 (Obj.cells #[Value.string ⟨#[]⟩, Value.string ⟨#[97]⟩, Value.string ⟨#[122, 122, 122, 122]⟩] 9))).trans hk3; have HC := hide hc4; have HP := hide ((unhide HP).kept hk4 (by omega)); have HR := hide ((unhide HR).kept hk4 (by omega)); have HO := hide (hk4.own (unhide HO) (fun k hk e => by have := (unhide HO).lt k hk; omega)); have HK := hide ((unhide HK).trans hk4); clear hc4 hk3 hk4 hg4 g0 g1 pf0 pf1 r0 r1 rf0 rf1; obtain ⟨g0, g1⟩ := (unhide HP).cells; obtain ⟨⟨vq, q0⟩, q1⟩ := own_cell (unhide HO) hjl 0 (by omega); try simp only [Nat.add_zero] at q0 q1)
        all_goals
          obtain ⟨r0, r1⟩ := (unhide HR).cells
          have rf0 := (unhide HR).froz 0
          have rf1 := (unhide HR).froz 1
          have hA := ((unhide HO).lt gA rfl).1
          have hA1 : ¬ gA = P := by omega
          have hA2 : ¬ P = gA := by omega
          have hA3 : ¬ gA = w.heap.size := by omega
          have hA4 : ¬ w.heap.size = gA := by omega
          have hst := ((unhide HO).stored (j * 3) (.string y)).1
          rw [itsV_set0 L j hjl] at hst
          have HOz := hide hst
          have HRz := hide ((unhide HR).kept (S := fun k => k = gA) (Kept.set w4 gA (j * 3) (.string y) rfl) (by omega))
          have HKz := hide ((unhide HK).set_new (X := gA) (by omega) (j * 3) (.string y))
          clear hst hA
          go_wp2
          refine bodyPost_ret (results_cell_row Try.results26 _ _ w.heap.size _ _ _ _ rfl ((unhide HRz).two _ _) Try.underlying26 rfl (by kernel_rfl)) rfl ?_
          have e := unhide HLL
          refine drawn_end (L := L.set j ⟨y, L[j].val, L[j].pg⟩) hPR (by rw [List.length_set, e]; exact unhide HOz) (unhide HKz) (by rw [List.length_set]; omega) (small_set (unhide HSM) ?_)
          exact ⟨(by simp only; omega), (unhide HSM L[j] (List.getElem_mem hjl)).2⟩
      by_cases z3 : z = 3
      · subst z3
        obtain ⟨gA, rfl⟩ : ∃ gA, A = some ⟨gA, 0, none⟩ := own_row (unhide HO) hi1
        have hjl : j < L.length := by have := unhide HLL; omega
        go_upto_region 19 with fail
        go_region_with
          (go_at_call 56; refine (pickI_any a len cap g B w3.heap.size 4 [-1, 0, 399, 400] (by omega) (by omega) rfl (by decide) hl hB (by omega) (w3.alloc (Obj.cells #[Value.int .i64 (-1), Value.int .i64 0, Value.int .i64 399, Value.int .i64 400] 3)).drew ((unhide HC).alloc _) ((unhide HD3).alloc _) (heap_alloc_new w3 _)).mono ?_; rintro e w4 ⟨⟨y, rfl, hy4⟩, hc4, hg4⟩; have hk3 := grown_kept hg4; have hk4 : Kept (fun k => k = g) w3 w4 := (Kept.of_below (below_new w3 (Obj.cells #[Value.int .i64 (-1), Value.int .i64 0, Value.int .i64 399, Value.int .i64 400] 3))).trans hk3; have HC := hide hc4; have HP := hide ((unhide HP).kept hk4 (by omega)); have HR := hide ((unhide HR).kept hk4 (by omega)); have HO := hide (hk4.own (unhide HO) (fun k hk e => by have := (unhide HO).lt k hk; omega)); have HK := hide ((unhide HK).trans hk4); clear hc4 hk3 hk4 hg4 g0 g1 pf0 pf1 r0 r1 rf0 rf1; obtain ⟨g0, g1⟩ := (unhide HP).cells; obtain ⟨⟨vq, q0⟩, q1⟩ := own_cell (unhide HO) hjl 2 (by omega); try simp only [Nat.add_zero] at q0 q1)
        all_goals
          obtain ⟨r0, r1⟩ := (unhide HR).cells
          have rf0 := (unhide HR).froz 0
          have rf1 := (unhide HR).froz 1
          have hA := ((unhide HO).lt gA rfl).1
          have hA1 : ¬ gA = P := by omega
          have hA2 : ¬ P = gA := by omega
          have hA3 : ¬ gA = w.heap.size := by omega
          have hA4 : ¬ w.heap.size = gA := by omega
          have hst := ((unhide HO).stored (j * 3 + 2) (.int .i64 y)).1
          rw [itsV_set2 L j hjl] at hst
          have HOz := hide hst
          have HRz := hide ((unhide HR).kept (S := fun k => k = gA) (Kept.set w4 gA (j * 3 + 2) (.int .i64 y) rfl) (by omega))
          have HKz := hide ((unhide HK).set_new (X := gA) (by omega) (j * 3 + 2) (.int .i64 y))
          clear hst hA
          go_wp2
          refine bodyPost_ret (results_cell_row Try.results26 _ _ w.heap.size _ _ _ _ rfl ((unhide HRz).two _ _) Try.underlying26 rfl (by kernel_rfl)) rfl ?_
          have e := unhide HLL
          refine drawn_end (L := L.set j ⟨L[j].key, L[j].val, y⟩) hPR (by rw [List.length_set, e]; exact unhide HOz) (unhide HKz) (by rw [List.length_set]; omega) (small_set (unhide HSM) ?_)
          exact unhide HSM L[j] (List.getElem_mem hjl)
      by_cases z4 : z = 4
      · subst z4
        obtain ⟨gA, rfl⟩ : ∃ gA, A = some ⟨gA, 0, none⟩ := own_row (unhide HO) hi1
        have hjl : j < L.length := by have := unhide HLL; omega
        go_upto_region 21 with fail
        go_region_with
          (first
            | (go_at_call 42; refine (unhide BEL 60 (by omega) w3.drew (unhide HC) (unhide HD3)).mono ?_; rintro e w4 ⟨v, rfl, hv0, hv1, hc4, hg4⟩; obtain ⟨vn, rfl⟩ := Int.eq_ofNat_of_zero_le hv0; have hk3 := grown_kept hg4; have hk4 : Kept (fun k => k = g) w3 w4 := hk3; have HC := hide hc4; have HP := hide ((unhide HP).kept hk4 (by omega)); have HR := hide ((unhide HR).kept hk4 (by omega)); have HO := hide (hk4.own (unhide HO) (fun k hk e => by have := (unhide HO).lt k hk; omega)); have HK := hide ((unhide HK).trans hk4); clear hc4 hk3 hk4 hg4 g0 g1 pf0 pf1 r0 r1 rf0 rf1; obtain ⟨g0, g1⟩ := (unhide HP).cells)
            | (go_at_call 58; refine (long65_any vn (by omega) w4).mono ?_; rintro e w5 ⟨⟨y, rfl, hy4⟩, hb5⟩; have hk4 : Kept (fun k => k = g) w4 w5 := Kept.of_below hb5; have hc4 := (unhide HC).kept (S := fun _ => False) (Kept.of_below hb5) (fun h => h); have HC := hide hc4; have HP := hide ((unhide HP).kept hk4 (by omega)); have HR := hide ((unhide HR).kept hk4 (by omega)); have HO := hide (hk4.own (unhide HO) (fun k hk e => by have := (unhide HO).lt k hk; omega)); have HK := hide ((unhide HK).trans hk4); clear hc4 hk4 hb5 g0 g1; obtain ⟨g0, g1⟩ := (unhide HP).cells; obtain ⟨⟨vq, q0⟩, q1⟩ := own_cell (unhide HO) hjl 1 (by omega)))
        all_goals
          obtain ⟨r0, r1⟩ := (unhide HR).cells
          have rf0 := (unhide HR).froz 0
          have rf1 := (unhide HR).froz 1
          have hA := ((unhide HO).lt gA rfl).1
          have hA1 : ¬ gA = P := by omega
          have hA2 : ¬ P = gA := by omega
          have hA3 : ¬ gA = w.heap.size := by omega
          have hA4 : ¬ w.heap.size = gA := by omega
          have hst := ((unhide HO).stored (j * 3 + 1) (.string y)).1
          rw [itsV_set1 L j hjl] at hst
          have HOz := hide hst
          have HRz := hide ((unhide HR).kept (S := fun k => k = gA) (Kept.set w5 gA (j * 3 + 1) (.string y) rfl) (by omega))
          have HKz := hide ((unhide HK).set_new (X := gA) (by omega) (j * 3 + 1) (.string y))
          clear hst hA
          go_wp2
          refine bodyPost_ret (results_cell_row Try.results26 _ _ w.heap.size _ _ _ _ rfl ((unhide HRz).two _ _) Try.underlying26 rfl (by kernel_rfl)) rfl ?_
          have e := unhide HLL
          refine drawn_end (L := L.set j ⟨L[j].key, y, L[j].pg⟩) hPR (by rw [List.length_set, e]; exact unhide HOz) (unhide HKz) (by rw [List.length_set]; omega) (small_set (unhide HSM) ?_)
          exact ⟨(unhide HSM L[j] (List.getElem_mem hjl)).1, (by simp only; omega)⟩
      by_cases z5 : z = 5
      · subst z5
        go_wp2_with fail
        refine (unhide BEL 3 (by omega) _ (unhide HC) (unhide HD3)).mono ?_
        rintro e w4 ⟨v, rfl, hv0, hv1, hc4, hg4⟩
        obtain ⟨vn, rfl⟩ := Int.eq_ofNat_of_zero_le hv0
        clear g0 g1 pf0 pf1 r0 r1 rf0 rf1
        have hkk := grown_kept hg4
        clear hg4
        have HC := hide hc4
        have HP := hide ((unhide HP).kept hkk (by omega))
        have HR := hide ((unhide HR).kept hkk (by omega))
        have HO := hide (hkk.own (unhide HO) (fun k hk e => by have := (unhide HO).lt k hk; omega))
        have HK := hide ((unhide HK).trans hkk)
        clear hc4 hkk
        have e50 : (50 : Int) + (vn : Int) = ((50 + vn : Nat) : Int) := by omega
        have HL6 := hide (fun W => long66_any (50 + vn) (by omega) W)
        rw [← e50] at HL6
        clear e50
        go_wp2_with fail
        refine (unhide HL6 _).mono ?_
        rintro e w5 ⟨⟨u, rfl, hu⟩, hb5⟩
        have hk5 : Kept (fun k => k = g) w4 w5 := Kept.of_below hb5
        have hc5 := (unhide HC).kept (S := fun _ => False) (Kept.of_below hb5) (fun h => h)
        clear hb5
        have HC := hide hc5
        have HP := hide ((unhide HP).kept hk5 (by omega))
        have HR := hide ((unhide HR).kept hk5 (by omega))
        have HO := hide (hk5.own (unhide HO) (fun k hk e => by have := (unhide HO).lt k hk; omega))
        have HK := hide ((unhide HK).trans hk5)
        clear hc5 hk5
        obtain ⟨g0, g1⟩ := (unhide HP).cells
        have pf0 := (unhide HP).froz 0
        have pf1 := (unhide HP).froz 1
        obtain ⟨r0, r1⟩ := (unhide HR).cells
        have rf0 := (unhide HR).froz 0
        have rf1 := (unhide HR).froz 1
        have hPl5 : P < w5.heap.size := (unhide HP).lt
        have hRl5 : w.heap.size < w5.heap.size := by omega
        have HRz := hide (((unhide HR).kept (S := fun k => k = P) (Kept.set w5 P 1 (.slice (some ⟨w5.heap.size, 0, none⟩) 1 1) rfl) (by omega)).kept (S := fun k => k = P) (Kept.set _ P 0 (.int .i64 1) rfl) (by omega))
        have HKz := hide (((unhide HK).set_new (X := P) (by omega) 1 (.slice (some ⟨w5.heap.size, 0, none⟩) 1 1)).set_new (X := P) (by omega) 0 (.int .i64 1))
        go_wp2
        refine bodyPost_ret (results_cell_row Try.results26 _ _ w.heap.size _ _ _ _ rfl (((unhide HRz).two _ _).below (below_new _ _)) Try.underlying26 rfl (by kernel_rfl)) rfl ?_
        refine drawn_new (L := [⟨⟨#[97]⟩, u, 0⟩]) (by omega) rfl (by simp) (unhide HKz) (by simp) (fun x hx => ?_)
        simp at hx
        subst hx
        exact ⟨(by show (ByteArray.mk #[97]).size ≤ 100; decide), (by simp only; omega)⟩
      · go_wp2
        refine bodyPost_ret (results_cell_row Try.results26 _ _ w.heap.size _ _ _ _ rfl ((unhide HR).two _ _) Try.underlying26 rfl (by kernel_rfl)) rfl ?_
        have e := unhide HLL
        exact drawn_end hPR (by rw [e]; exact unhide HO) (unhide HK) (by omega) (unhide HSM)
end Go.Proofs.Ytajajfmaekdphaa
