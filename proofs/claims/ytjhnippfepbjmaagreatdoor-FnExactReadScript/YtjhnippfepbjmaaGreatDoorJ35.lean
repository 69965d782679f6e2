/-
  Texts of this claim, one behind the other: RtLImpl.
-/
import Derived.Test.YtjhnippfepbjmaaGreatDoorJ34
import Derived.Test.YtjhnippfepbjmaaGreatDoorJ29
import Derived.Test.YtjhnippfepbjmaaGreatDoorJ19

/-
  The contracts of impl.noRoot, impl.rootAt and impl.LastRoot.
-/
namespace Go.Proofs.YtjhnippfepbjmaaGreatDoor
namespace Rt
open Go.RowKit

theorem readA_size (L : List ByteArray) (Q : List (Int × ByteArray)) (x : Int) : (readDv L Q x).1.size ≤ 64 := by
  unfold readDv
  split
  · rename_i h
    obtain ⟨_, _, _, h4, h5⟩ := devOk_sec h.1
    refine lastOf_size ?_ (fun q hq => (h5 q hq).2.2)
    have hk : x.toNat < L.length := by omega
    rw [List.getD_eq_getElem?_getD, List.getElem?_eq_getElem hk]
    exact h4 _ (List.getElem_mem hk)
  · show (0 : Nat) ≤ 64
    omega

theorem results_root1 {fn : Func} {p : Tmp} (h : fn.results = #[.cell p 39]) (tmps : Array Value) (w : World) (g : Nat) (a b : Int) (hp : tmps.getD p undef = .pointer (some ⟨g, 0, none⟩)) (hg : RBox w g a b) :
    (results fn tmps).run Tryz.prog w = .ok (.agg #[.int .i64 a, .int .i64 b]) w := by
  have hr := run_loadVar_row (P := Tryz.prog) w g 39 39 #[.int .i64 a, .int .i64 b] (0, 0) _ hg Tryz.underlying39 rfl (by kernel_rfl)
  have hp' : tmps[p]?.getD undef = .pointer (some ⟨g, 0, none⟩) := by simpa using hp
  simp only [results, h]
  simp [hp', asAddr, hr]

theorem noRoot_any (w : World) :
    Calls Tryz.prog 131 #[] w fun e w' => e = .returned (.agg #[.int .i64 (-1), .int .i64 (-1)]) ∧ Below w.heap.size w w' := by
  go_enter Tryz.func131, Tryz.ntmps131
  go_wp2
  go_returns
  exact ⟨rfl, below_new1 _ _⟩

/-- What rootAt tells of a text. -/
def atS (x : ByteArray) : Int := if rootF x = true then rootS x else -1
def atR (x : ByteArray) : Int := if rootF x = true then rootR x else -1

set_option maxRecDepth 100000 in
set_option maxHeartbeats 1000000 in
theorem rootAt_any (v : Value) (B : Nat) (k : Int) (L : List ByteArray) (Q : List (Int × ByteArray)) (h1 : L.length ≤ 1048576) (h2 : Q.length ≤ 1048576) (hm : ∀ s ∈ L, s.size ≤ 9223372036854775807) (w : World) (hB : B ≤ w.heap.size) (hv : DevAt w v B L Q) :
    Calls Tryz.prog 130 #[v, .int .i64 k] w fun e w' => e = .returned (.agg #[.int .i64 (atS (readDv L Q k).1), .int .i64 (atR (readDv L Q k).1)]) ∧ Below w.heap.size w w' := by
  have RS0 := hide (fun w1 (hb : Below w.heap.size w w1) => implSector_any v B k L Q h1 h2 hm w1 (Nat.le_trans hB hb.size) (hv.below hb hB))
  have hsz := readA_size L Q k
  obtain ⟨a, n, c, a', n', c', rfl, _, _⟩ := hv
  generalize (readDv L Q k).1 = x at RS0 hsz
  generalize (readDv L Q k).2 = fx at RS0
  have RX := hide (fun w => implReadRoot_any x (by omega) w)
  rw [rootV_eq] at RX
  have HS : Hid (atS x = if rootF x = true then rootS x else -1) := rfl
  have HR : Hid (atR x = if rootF x = true then rootR x else -1) := rfl
  generalize atS x = so at HS
  generalize atR x = ro at HR
  generalize rootS x = s1 at RX HS
  generalize rootR x = t1 at RX HR
  generalize rootF x = f1 at RX HS HR
  clear h1 h2 hm hsz
  go_enter Tryz.func130, Tryz.ntmps130
  go_wp2_with fail
  obtain ⟨W1, hW1⟩ : ∃ W, W = (w.alloc (Obj.cells #[Value.slice a n c, Value.slice a' n' c'] 36)).alloc (Obj.cells #[Value.int .i64 0, Value.int .i64 0] 39) := ⟨_, rfl⟩
  have r1 : RBox W1 (w.heap.size + 1) 0 0 := by
    rw [hW1]
    have h := heap_alloc_new (w.alloc (Obj.cells #[Value.slice a n c, Value.slice a' n' c'] 36)) (Obj.cells #[Value.int .i64 0, Value.int .i64 0] 39)
    rw [World.size_alloc] at h
    exact h
  have hb1 : Below w.heap.size w W1 := by rw [hW1]; exact ((Below.refl _ _).alloc (Nat.le_refl _) _).alloc (by simp) _
  have hs1 : w.heap.size + 1 < W1.heap.size := by rw [hW1]; simp
  rw [← hW1]
  clear hW1
  refine (unhide RS0 W1 hb1).mono ?_
  rintro e w2 ⟨rfl, hb2⟩
  have HR2 : Hid (RBox w2 (w.heap.size + 1) 0 0) := (hb2.block _ hs1).trans r1
  have hc2 := hb1.trans (hb2.mono hb1.size)
  have hs2 : w.heap.size + 1 < w2.heap.size := Nat.lt_of_lt_of_le hs1 hb2.size
  clear r1 hb2 hb1 hs1
  go_wp2_with fail
  refine (unhide RX w2).mono ?_
  rintro e w4 ⟨rfl, hb4⟩
  obtain ⟨W4, hW4⟩ : ∃ W, W = w4.alloc (Obj.cells #[Value.int .i64 s1, Value.int .i64 t1] 39) := ⟨_, rfl⟩
  have hc4 := hc2.trans (hb4.mono hc2.size)
  have hs4 : w.heap.size + 1 < w4.heap.size := Nat.lt_of_lt_of_le hs2 hb4.size
  have HX4 : RBox W4 w4.heap.size s1 t1 := by rw [hW4]; exact heap_alloc_new w4 _
  have HR4 : RBox W4 (w.heap.size + 1) 0 0 := by rw [hW4]; exact ((below_new1 _ _).block _ hs4).trans ((hb4.block _ hs2).trans (unhide HR2))
  have hc5 : Below w.heap.size w W4 := by rw [hW4]; exact hc4.alloc hc4.size _
  have hs5 : w.heap.size + 1 < W4.heap.size := by rw [hW4]; simp; omega
  obtain ⟨t0, t1', tf⟩ := cells_of_two HR4
  obtain ⟨q0, q1, _⟩ := cells_of_two HX4
  have tf0 := tf 0
  have tf1 := tf 1
  have HR6 := hide HR4
  clear hb4 hc2 hs2 HR2 HR4 HX4 tf
  go_upto_region 3 with fail
  rw [← hW4]
  clear hW4 hc4 hs4
  cases f1
  · have HSo : Hid (so = -1) := by show _ = _; rw [unhide HS]; simp
    have HRo : Hid (ro = -1) := by show _ = _; rw [unhide HR]; simp
    clear HS HR
    go_wp2_with fail
    refine (noRoot_any _).mono ?_
    rintro e w5 ⟨rfl, hb5⟩
    have HR7 : RBox w5 (w.heap.size + 1) 0 0 := (hb5.block _ hs5).trans (unhide HR6)
    have hc6 := hc5.trans (hb5.mono hc5.size)
    obtain ⟨t0, t1', tf⟩ := cells_of_two HR7
    have tf0 := tf 0
    have tf1 := tf 1
    have HR8 := hide HR7
    clear hb5 HR7 tf HR6
    go_wp2
    (try simp only [Exit.inBlock, Exit.then])
    refine bodyPost_ret (results_root1 Tryz.results130 _ _ (w.heap.size + 1) _ _ rfl ((unhide HR8).two _ _)) rfl ?_
    exact ⟨by rw [unhide HSo, unhide HRo], (hc6.setCell (p := ⟨w.heap.size + 1, 0, none⟩) (by simp) _).setCell (p := ⟨w.heap.size + 1, 1, none⟩) (by simp) _⟩
  · have HSo : Hid (so = s1) := by show _ = _; rw [unhide HS]; simp
    have HRo : Hid (ro = t1) := by show _ = _; rw [unhide HR]; simp
    clear HS HR
    go_wp2
    (try simp only [Exit.inBlock, Exit.then])
    refine bodyPost_ret (results_root1 Tryz.results130 _ _ (w.heap.size + 1) _ _ rfl ((unhide HR6).two _ _)) rfl ?_
    exact ⟨by rw [unhide HSo, unhide HRo], (hc5.setCell (p := ⟨w.heap.size + 1, 0, none⟩) (by simp) _).setCell (p := ⟨w.heap.size + 1, 1, none⟩) (by simp) _⟩

/-- What LastRoot tells of two answers of rootAt. -/
theorem lastV_at (x y : ByteArray) : lastV x y =
    if atS x < atS y then (if atS y = -1 ∧ atR y = -1 then .tuple #[.agg #[.int .i64 0, .int .i64 0], .int .i64 0, .bool false] else .tuple #[.agg #[.int .i64 (atS y), .int .i64 (atR y)], .int .i64 1, .bool true])
    else (if atS x = -1 ∧ atR x = -1 then .tuple #[.agg #[.int .i64 0, .int .i64 0], .int .i64 0, .bool false] else .tuple #[.agg #[.int .i64 (atS x), .int .i64 (atR x)], .int .i64 0, .bool true]) := by
  have hp : ∀ z, rootF z = true → 0 ≤ rootS z := fun z h => by
    unfold rootF at h
    unfold rootS
    cases hz : rootA z with
    | none => rw [hz] at h; cases h
    | some p =>
      obtain ⟨s, t⟩ := p
      have := (rootA_text hz).1
      unfold okR at this
      simp at this
      show 0 ≤ s
      omega
  have hx := hp x
  have hy := hp y
  unfold lastV atS atR
  cases h1 : rootF x
  · cases h2 : rootF y
    · simp
    · have h := hy h2
      have e1 : -1 < rootS y := by omega
      have e2 : rootS y ≠ -1 := by omega
      simp [e1, e2]
  · cases h2 : rootF y
    · have h := hx h1
      have e1 : ¬ rootS x < -1 := by omega
      have e2 : rootS x ≠ -1 := by omega
      simp [e1, e2]
    · have := hx h1
      have := hy h2
      by_cases hlt : rootS x < rootS y
      · simp [hlt]
        omega
      · simp [hlt]
        omega
set_option maxRecDepth 100000 in
set_option maxHeartbeats 2000000 in
theorem implLast_any (v : Value) (B : Nat) (L : List ByteArray) (Q : List (Int × ByteArray)) (h1 : L.length ≤ 1048576) (h2 : Q.length ≤ 1048576) (hm : ∀ s ∈ L, s.size ≤ 9223372036854775807) (w : World) (hB : B ≤ w.heap.size) (hv : DevAt w v B L Q) :
    Calls Tryz.prog 108 #[v] w fun e w' => e = .returned (lastV (readDv L Q 0).1 (readDv L Q 1).1) ∧ Below w.heap.size w w' := by
  have RS0 := hide (fun w1 (hb : Below w.heap.size w w1) => rootAt_any v B 0 L Q h1 h2 hm w1 (Nat.le_trans hB hb.size) (hv.below hb hB))
  have RS1 := hide (fun w1 (hb : Below w.heap.size w w1) => rootAt_any v B 1 L Q h1 h2 hm w1 (Nat.le_trans hB hb.size) (hv.below hb hB))
  obtain ⟨a, n, c, a', n', c', rfl, _, _⟩ := hv
  generalize (readDv L Q 0).1 = x at RS0
  generalize (readDv L Q 1).1 = y at RS1
  have HV := hide (lastV_at x y)
  generalize lastV x y = r at HV
  generalize atS x = s1 at RS0 HV
  generalize atR x = t1 at RS0 HV
  generalize atS y = s2 at RS1 HV
  generalize atR y = t2 at RS1 HV
  clear h1 h2 hm
  go_enter Tryz.func108, Tryz.ntmps108
  go_wp2_with fail
  obtain ⟨W1, hW1⟩ : ∃ W, W = (w.alloc (Obj.cells #[Value.slice a n c, Value.slice a' n' c'] 36)).alloc (Obj.cells #[Value.int .i64 0, Value.int .i64 0] 39) := ⟨_, rfl⟩
  have d1 : W1.heap[w.heap.size]? = some (.cells #[Value.slice a n c, Value.slice a' n' c'] 36 (0, 0)) := by rw [hW1]; exact ((below_new1 _ _).block _ (by simp)).trans (heap_alloc_new w _)
  have r1 : RBox W1 (w.heap.size + 1) 0 0 := by
    rw [hW1]
    have h := heap_alloc_new (w.alloc (Obj.cells #[Value.slice a n c, Value.slice a' n' c'] 36)) (Obj.cells #[Value.int .i64 0, Value.int .i64 0] 39)
    rw [World.size_alloc] at h
    exact h
  have hb1 : Below w.heap.size w W1 := by rw [hW1]; exact ((Below.refl _ _).alloc (Nat.le_refl _) _).alloc (by simp) _
  have hs1 : w.heap.size + 1 < W1.heap.size := by rw [hW1]; simp
  rw [← hW1]
  clear hW1
  refine (unhide RS0 W1 hb1).mono ?_
  rintro e w2 ⟨rfl, hb2⟩
  obtain ⟨W2, hW2⟩ : ∃ W, W = w2.alloc (Obj.cells #[Value.int .i64 s1, Value.int .i64 t1] 39) := ⟨_, rfl⟩
  have hbW2 : Below w2.heap.size w2 W2 := by rw [hW2]; exact below_new1 _ _
  have d2 := (hbW2.block _ (by have := hb2.size; omega)).trans ((hb2.block _ (by omega)).trans d1)
  have HR2 : Hid (RBox W2 (w.heap.size + 1) 0 0) := (hbW2.block _ (by have := hb2.size; omega)).trans ((hb2.block _ hs1).trans r1)
  have HX2 : Hid (RBox W2 w2.heap.size s1 t1) := by show RBox _ _ _ _; rw [hW2]; exact heap_alloc_new w2 _
  have hc2 := (hb1.trans (hb2.mono hb1.size)).trans (hbW2.mono (Nat.le_trans hb1.size hb2.size))
  have hs2 : w.heap.size + 1 < w2.heap.size := Nat.lt_of_lt_of_le hs1 hb2.size
  have hs2' : w2.heap.size < W2.heap.size := by rw [hW2]; simp
  obtain ⟨p0, p1, _⟩ := cells_of_two d2
  clear d1 r1 hb2 hb1 hs1 hbW2 d2
  go_upto_region 2 with fail
  rw [← hW2]
  clear hW2
  go_wp2_with fail
  refine (unhide RS1 W2 hc2).mono ?_
  rintro e w3 ⟨rfl, hb3⟩
  obtain ⟨W3, hW3⟩ : ∃ W, W = w3.alloc (Obj.cells #[Value.int .i64 s2, Value.int .i64 t2] 39) := ⟨_, rfl⟩
  have hbW3 : Below w3.heap.size w3 W3 := by rw [hW3]; exact below_new1 _ _
  have hsz := hb3.size
  have r3 : RBox W3 (w.heap.size + 1) 0 0 := (hbW3.block _ (by omega)).trans ((hb3.block _ (by omega)).trans (unhide HR2))
  have x3 : RBox W3 w2.heap.size s1 t1 := (hbW3.block _ (by omega)).trans ((hb3.block _ (by omega)).trans (unhide HX2))
  have y3 : RBox W3 w3.heap.size s2 t2 := by rw [hW3]; exact heap_alloc_new w3 _
  have hc3 := (hc2.trans (hb3.mono hc2.size)).trans (hbW3.mono (Nat.le_trans hc2.size hb3.size))
  have hs3 : w2.heap.size < W3.heap.size := by rw [hW3]; simp; omega
  have HNE : Hid (w2.heap.size ≠ w.heap.size + 1) := by show _ ≠ _; omega
  clear hb3 hc2 hbW3 p0 p1 HR2 HX2
  obtain ⟨q0, q1, xf⟩ := cells_of_two x3
  obtain ⟨u0, u1, _⟩ := cells_of_two y3
  obtain ⟨t0, t1', tf⟩ := cells_of_two r3
  have xf0 := xf 0
  have xf1 := xf 1
  have tf0 := tf 0
  have tf1 := tf 1
  have HR3 := hide r3
  have HX3 := hide x3
  clear r3 x3 y3 xf tf
  go_upto_region 3 with fail
  rw [← hW3]
  clear hW3 hsz hs2'
  by_cases hlt : s1 < s2
  · have HVV : Hid (r = if s2 = -1 ∧ t2 = -1 then .tuple #[.agg #[.int .i64 0, .int .i64 0], .int .i64 0, .bool false] else .tuple #[.agg #[.int .i64 s2, .int .i64 t2], .int .i64 1, .bool true]) := by show _ = _; rw [unhide HV, if_pos hlt]
    clear HV
    obtain ⟨V, hV⟩ : ∃ V, V = (W3.setCell ⟨w2.heap.size, 0, none⟩ (.int .i64 s2)).setCell ⟨w2.heap.size, 1, none⟩ (.int .i64 t2) := ⟨_, rfl⟩
    have x4 : RBox V w2.heap.size s2 t2 := by rw [hV]; exact (unhide HX3).two _ _
    have r4 : RBox V (w.heap.size + 1) 0 0 := by
      rw [hV]
      exact (Below.heap_setCell _ _ _ _ (Ne.symm (unhide HNE))).trans ((Below.heap_setCell _ _ _ _ (Ne.symm (unhide HNE))).trans (unhide HR3))
    have hcV : Below w.heap.size w V := by rw [hV]; exact (hc3.setCell (p := ⟨w2.heap.size, 0, none⟩) (by simp; omega) _).setCell (p := ⟨w2.heap.size, 1, none⟩) (by simp; omega) _
    go_upto_region 5 with fail
    rw [← hV]
    clear hV hc3 q0 q1 u0 u1 t0 t1' xf0 xf1 tf0 tf1 HR3 HX3
    obtain ⟨q0, q1, _⟩ := cells_of_two x4
    obtain ⟨t0, t1', tf⟩ := cells_of_two r4
    have hl4 : w.heap.size + 1 < V.heap.size := World.block_lt_of_cell? _ _ t0
    have hx4 : w2.heap.size < V.heap.size := World.block_lt_of_cell? _ _ q0
    have HR4 := hide r4
    clear x4 r4 tf t0 t1'
    by_cases e1 : s2 = -1
    · by_cases e2 : t2 = -1
      · have HRR : Hid (r = .tuple #[.agg #[.int .i64 0, .int .i64 0], .int .i64 0, .bool false]) := by show _ = _; rw [unhide HVV, if_pos ⟨e1, e2⟩]
        have hq1 : (s2 == -1) = true := by simp [e1]
        have hq2 : (t2 == -1) = true := by simp [e2]
        clear HVV
        go_wp2_with fail
        go_region_held3 (fun u => u.cell? ⟨w2.heap.size, 0, none⟩ = some (.int .i64 s2) ∧ u.cell? ⟨w2.heap.size, 1, none⟩ = some (.int .i64 t2))
          (first | go_keep | exact ⟨q0, q1⟩)
          (first | (go_at_call 131; refine (noRoot_any _).mono ?_; rintro e wk ⟨rfl, hbk⟩; have q0 := (hbk.cell (p := ⟨w2.heap.size, 0, none⟩) hx4).trans q0; have q1 := (hbk.cell (p := ⟨w2.heap.size, 1, none⟩) hx4).trans q1))
        all_goals
          have HR5 : RBox wk (w.heap.size + 1) 0 0 := (hbk.block _ hl4).trans (unhide HR4)
          have hc5 := hcV.drew.trans (hbk.mono hcV.size)
          obtain ⟨t0, t1', tf⟩ := cells_of_two HR5
          have tf0 := tf 0
          have tf1 := tf 1
          have HR6 := hide HR5
          clear HR5 tf hbk HR4
          go_wp2
          (try simp only [Exit.inBlock, Exit.then])
          refine bodyPost_ret (results_root3 Tryz.results108 _ _ (w.heap.size + 1) _ _ rfl ((unhide HR6).two _ _)) rfl ?_
          exact ⟨by rw [unhide HRR]; rfl, (hc5.setCell (p := ⟨w.heap.size + 1, 0, none⟩) (by simp) _).setCell (p := ⟨w.heap.size + 1, 1, none⟩) (by simp) _⟩
      · have HRR : Hid (r = .tuple #[.agg #[.int .i64 s2, .int .i64 t2], .int .i64 1, .bool true]) := by show _ = _; rw [unhide HVV, if_neg (fun h => e2 h.2)]
        have hq1 : (s2 == -1) = true := by simp [e1]
        have hq2 : (t2 == -1) = false := by simp [e2]
        clear HVV
        go_wp2_with fail
        go_region_held3 (fun u => u.cell? ⟨w2.heap.size, 0, none⟩ = some (.int .i64 s2) ∧ u.cell? ⟨w2.heap.size, 1, none⟩ = some (.int .i64 t2))
          (first | go_keep | exact ⟨q0, q1⟩)
          (first | (go_at_call 131; refine (noRoot_any _).mono ?_; rintro e wk ⟨rfl, hbk⟩; have q0 := (hbk.cell (p := ⟨w2.heap.size, 0, none⟩) hx4).trans q0; have q1 := (hbk.cell (p := ⟨w2.heap.size, 1, none⟩) hx4).trans q1))
        all_goals
          have HR5 : RBox wk (w.heap.size + 1) 0 0 := (hbk.block _ hl4).trans (unhide HR4)
          have hc5 := hcV.drew.trans (hbk.mono hcV.size)
          obtain ⟨t0, t1', tf⟩ := cells_of_two HR5
          have tf0 := tf 0
          have tf1 := tf 1
          have HR6 := hide HR5
          clear HR5 tf hbk HR4
          go_wp2
          (try simp only [Exit.inBlock, Exit.then])
          refine bodyPost_ret (results_root3 Tryz.results108 _ _ (w.heap.size + 1) _ _ rfl ((unhide HR6).two _ _)) rfl ?_
          exact ⟨by rw [unhide HRR, e1]; rfl, (hc5.setCell (p := ⟨w.heap.size + 1, 0, none⟩) (by simp) _).setCell (p := ⟨w.heap.size + 1, 1, none⟩) (by simp) _⟩
    · have HRR : Hid (r = .tuple #[.agg #[.int .i64 s2, .int .i64 t2], .int .i64 1, .bool true]) := by show _ = _; rw [unhide HVV, if_neg (fun h => e1 h.1)]
      have hq1 : (s2 == -1) = false := by simp [e1]
      clear HVV
      go_wp2_with fail
      go_region_held3 (fun u => u.cell? ⟨w2.heap.size, 0, none⟩ = some (.int .i64 s2) ∧ u.cell? ⟨w2.heap.size, 1, none⟩ = some (.int .i64 t2))
        (first | go_keep | exact ⟨q0, q1⟩)
        (first | (go_at_call 131; refine (noRoot_any _).mono ?_; rintro e wk ⟨rfl, hbk⟩; have q0 := (hbk.cell (p := ⟨w2.heap.size, 0, none⟩) hx4).trans q0; have q1 := (hbk.cell (p := ⟨w2.heap.size, 1, none⟩) hx4).trans q1))
      all_goals
        have HR5 : RBox wk (w.heap.size + 1) 0 0 := (hbk.block _ hl4).trans (unhide HR4)
        have hc5 := hcV.drew.trans (hbk.mono hcV.size)
        obtain ⟨t0, t1', tf⟩ := cells_of_two HR5
        have tf0 := tf 0
        have tf1 := tf 1
        have HR6 := hide HR5
        clear HR5 tf hbk HR4
        go_wp2
        (try simp only [Exit.inBlock, Exit.then])
        refine bodyPost_ret (results_root3 Tryz.results108 _ _ (w.heap.size + 1) _ _ rfl ((unhide HR6).two _ _)) rfl ?_
        exact ⟨by rw [unhide HRR]; rfl, (hc5.setCell (p := ⟨w.heap.size + 1, 0, none⟩) (by simp) _).setCell (p := ⟨w.heap.size + 1, 1, none⟩) (by simp) _⟩
  · have HVV : Hid (r = if s1 = -1 ∧ t1 = -1 then .tuple #[.agg #[.int .i64 0, .int .i64 0], .int .i64 0, .bool false] else .tuple #[.agg #[.int .i64 s1, .int .i64 t1], .int .i64 0, .bool true]) := by show _ = _; rw [unhide HV, if_neg hlt]
    clear HV
    go_upto_region 5 with fail
    obtain ⟨V, hV⟩ : ∃ V, V = W3 := ⟨_, rfl⟩
    have x4 : RBox V w2.heap.size s1 t1 := by rw [hV]; exact unhide HX3
    have r4 : RBox V (w.heap.size + 1) 0 0 := by rw [hV]; exact unhide HR3
    have hcV : Below w.heap.size w V := by rw [hV]; exact hc3
    rw [← hV]
    clear hV hc3 q0 q1 u0 u1 t0 t1' xf0 xf1 tf0 tf1 HR3 HX3
    obtain ⟨q0, q1, _⟩ := cells_of_two x4
    obtain ⟨t0, t1', tf⟩ := cells_of_two r4
    have hl4 : w.heap.size + 1 < V.heap.size := World.block_lt_of_cell? _ _ t0
    have hx4 : w2.heap.size < V.heap.size := World.block_lt_of_cell? _ _ q0
    have HR4 := hide r4
    clear x4 r4 tf t0 t1'
    by_cases e1 : s1 = -1
    · by_cases e2 : t1 = -1
      · have HRR : Hid (r = .tuple #[.agg #[.int .i64 0, .int .i64 0], .int .i64 0, .bool false]) := by show _ = _; rw [unhide HVV, if_pos ⟨e1, e2⟩]
        have hq1 : (s1 == -1) = true := by simp [e1]
        have hq2 : (t1 == -1) = true := by simp [e2]
        clear HVV
        go_wp2_with fail
        go_region_held3 (fun u => u.cell? ⟨w2.heap.size, 0, none⟩ = some (.int .i64 s1) ∧ u.cell? ⟨w2.heap.size, 1, none⟩ = some (.int .i64 t1))
          (first | go_keep | exact ⟨q0, q1⟩)
          (first | (go_at_call 131; refine (noRoot_any _).mono ?_; rintro e wk ⟨rfl, hbk⟩; have q0 := (hbk.cell (p := ⟨w2.heap.size, 0, none⟩) hx4).trans q0; have q1 := (hbk.cell (p := ⟨w2.heap.size, 1, none⟩) hx4).trans q1))
        all_goals
          have HR5 : RBox wk (w.heap.size + 1) 0 0 := (hbk.block _ hl4).trans (unhide HR4)
          have hc5 := hcV.drew.trans (hbk.mono hcV.size)
          obtain ⟨t0, t1', tf⟩ := cells_of_two HR5
          have tf0 := tf 0
          have tf1 := tf 1
          have HR6 := hide HR5
          clear HR5 tf hbk HR4
          go_wp2
          (try simp only [Exit.inBlock, Exit.then])
          refine bodyPost_ret (results_root3 Tryz.results108 _ _ (w.heap.size + 1) _ _ rfl ((unhide HR6).two _ _)) rfl ?_
          exact ⟨by rw [unhide HRR]; rfl, (hc5.setCell (p := ⟨w.heap.size + 1, 0, none⟩) (by simp) _).setCell (p := ⟨w.heap.size + 1, 1, none⟩) (by simp) _⟩
      · have HRR : Hid (r = .tuple #[.agg #[.int .i64 s1, .int .i64 t1], .int .i64 0, .bool true]) := by show _ = _; rw [unhide HVV, if_neg (fun h => e2 h.2)]
        have hq1 : (s1 == -1) = true := by simp [e1]
        have hq2 : (t1 == -1) = false := by simp [e2]
        clear HVV
        go_wp2_with fail
        go_region_held3 (fun u => u.cell? ⟨w2.heap.size, 0, none⟩ = some (.int .i64 s1) ∧ u.cell? ⟨w2.heap.size, 1, none⟩ = some (.int .i64 t1))
          (first | go_keep | exact ⟨q0, q1⟩)
          (first | (go_at_call 131; refine (noRoot_any _).mono ?_; rintro e wk ⟨rfl, hbk⟩; have q0 := (hbk.cell (p := ⟨w2.heap.size, 0, none⟩) hx4).trans q0; have q1 := (hbk.cell (p := ⟨w2.heap.size, 1, none⟩) hx4).trans q1))
        all_goals
          have HR5 : RBox wk (w.heap.size + 1) 0 0 := (hbk.block _ hl4).trans (unhide HR4)
          have hc5 := hcV.drew.trans (hbk.mono hcV.size)
          obtain ⟨t0, t1', tf⟩ := cells_of_two HR5
          have tf0 := tf 0
          have tf1 := tf 1
          have HR6 := hide HR5
          clear HR5 tf hbk HR4
          go_wp2
          (try simp only [Exit.inBlock, Exit.then])
          refine bodyPost_ret (results_root3 Tryz.results108 _ _ (w.heap.size + 1) _ _ rfl ((unhide HR6).two _ _)) rfl ?_
          exact ⟨by rw [unhide HRR, e1]; rfl, (hc5.setCell (p := ⟨w.heap.size + 1, 0, none⟩) (by simp) _).setCell (p := ⟨w.heap.size + 1, 1, none⟩) (by simp) _⟩
    · have HRR : Hid (r = .tuple #[.agg #[.int .i64 s1, .int .i64 t1], .int .i64 0, .bool true]) := by show _ = _; rw [unhide HVV, if_neg (fun h => e1 h.1)]
      have hq1 : (s1 == -1) = false := by simp [e1]
      clear HVV
      go_wp2_with fail
      go_region_held3 (fun u => u.cell? ⟨w2.heap.size, 0, none⟩ = some (.int .i64 s1) ∧ u.cell? ⟨w2.heap.size, 1, none⟩ = some (.int .i64 t1))
        (first | go_keep | exact ⟨q0, q1⟩)
        (first | (go_at_call 131; refine (noRoot_any _).mono ?_; rintro e wk ⟨rfl, hbk⟩; have q0 := (hbk.cell (p := ⟨w2.heap.size, 0, none⟩) hx4).trans q0; have q1 := (hbk.cell (p := ⟨w2.heap.size, 1, none⟩) hx4).trans q1))
      all_goals
        have HR5 : RBox wk (w.heap.size + 1) 0 0 := (hbk.block _ hl4).trans (unhide HR4)
        have hc5 := hcV.drew.trans (hbk.mono hcV.size)
        obtain ⟨t0, t1', tf⟩ := cells_of_two HR5
        have tf0 := tf 0
        have tf1 := tf 1
        have HR6 := hide HR5
        clear HR5 tf hbk HR4
        go_wp2
        (try simp only [Exit.inBlock, Exit.then])
        refine bodyPost_ret (results_root3 Tryz.results108 _ _ (w.heap.size + 1) _ _ rfl ((unhide HR6).two _ _)) rfl ?_
        exact ⟨by rw [unhide HRR]; rfl, (hc5.setCell (p := ⟨w.heap.size + 1, 0, none⟩) (by simp) _).setCell (p := ⟨w.heap.size + 1, 1, none⟩) (by simp) _⟩
end Rt
end Go.Proofs.YtjhnippfepbjmaaGreatDoor
