/-
  The contract of spec.l17Parts: the parts, one behind the other.
-/
import Derived.Test.YtejfknkcakeakaaLkT
import Derived.Test.YtejfknkcakeakaaLkW
namespace Go.Proofs.Ytejfknkcakeakaa
namespace Lk
open Go.RowKit
open Gr (Kept EdgeI GrAt GBox below_new InOwn InAt own_below own_lower intsV intsAt_of_own info3)

theorem inK_setTo (f : Nat → Bool) (n y : Nat) : inK (setTo f n) (y : Int) = (decide (y < n) && f y) := by
  have h : setTo f n = nI ((List.range n).filter f) := rfl
  rw [h, inK_nI]
  rw [Bool.eq_iff_iff]
  simp [List.mem_filter]

theorem inK_app (U V : List Int) (x : Int) : inK (U ++ V) x = (inK U x || inK V x) := by
  unfold inK
  rw [List.contains_eq_any_beq, List.any_append, ← List.contains_eq_any_beq, ← List.contains_eq_any_beq]

theorem ints_cellsL {w : World} {B g c : Nat} {U : List Int} (h : w.ownsRow B 3 1 (.slice (some ⟨g, 0, none⟩) U.length c) U.length (intsV U)) : ∀ j u, (intsV U)[j]? = some u → w.cell? ((⟨g, 0, none⟩ : Addr).add j) = some u := fun j u hu => by
  have hj : j < U.length := by
    have := (List.getElem?_eq_some_iff.1 hu).1
    simpa [intsV] using this
  have hadd : (⟨g, 0, none⟩ : Addr).add j = ⟨g, j, none⟩ := by unfold Addr.add; split <;> simp_all
  rw [hadd, h.cellAt j (by omega), hu]

theorem intsV_oneL (U : List Int) : ∀ u ∈ intsV U, u.oneCell' = true := fun u hu => by
  unfold intsV at hu
  obtain ⟨x, _, rfl⟩ := List.mem_map.1 hu
  rfl

theorem intsV_lenL (U : List Int) : (intsV U).length = U.length * 1 := by simp [intsV]
theorem intsV_appL (U V : List Int) : intsV (U ++ V) = intsV U ++ intsV V := by simp [intsV]

/-- What has been gathered, a part more. -/
def andF (D R : Nat → Bool) : Nat → Bool := fun j => D j || R j

/-- The rows that l17Parts tells. -/
def rowsS (Q : List EdgeI) (n : Nat) (K : List Int) : List (List Int) := (prtsS (nbF Q) (leftF n K) (List.range' 0 n) (fun _ => false)).map fun p => setTo p n

theorem prtsS_length (F : Nat → Nat → Bool) (f : Nat → Bool) : ∀ (L : List Nat) (D : Nat → Bool), (prtsS F f L D).length ≤ L.length
  | [], _ => by simp [prtsS]
  | v :: r, D => by
    cases h : (f v && !D v)
    · rw [prtsS_out h]; exact Nat.le_trans (prtsS_length F f r D) (by simp)
    · rw [prtsS_in h]; simp only [List.length_cons]; have := prtsS_length F f r (fun j => D j || rch F f v j); omega

set_option maxRecDepth 100000 in
set_option maxHeartbeats 4000000 in
theorem partsS_any (v : Value) (B n : Nat) (Q : List EdgeI) (u : Value) (K : List Int) (h1 : Q.length ≤ 1048576) (h2 : K.length ≤ 1048576) (hn : n ≤ 9) (w : World) (hB : B ≤ w.heap.size) (hv : GrAt w v B (n : Int) Q) (hu : InAt w u B K) :
    Calls Try.prog 50 #[v, u] w fun e w' => (∃ d vs C, e = .returned d ∧ Grps w' w.heap.size C d vs (rowsS Q n K) ∧ Dist vs ∧ C ≤ w'.heap.size) ∧ Below w.heap.size w w' := by
  obtain ⟨i0, hi, hz0, hz1, hz2⟩ := info_parts info3
  obtain ⟨i1, hi1, hy0, hy1, hy2⟩ := info_parts infoRow
  have PT := hide (fun x (hx : x < n) w1 (hb : Below w.heap.size w w1) => part_any v B n Q u K x hx h1 h2 hn w1 (by have := hb.size; omega) (hv.below hb hB) (hu.below hb hB))
  obtain ⟨au, cu, rfl, hK⟩ := hu
  have IK := hide (fun (y : Int) w1 (hb : Below w.heap.size w w1) => l03In_any au K.length cu B K y h2 w1 (hK.below hb hB))
  have IU := hide (fun (S : List Int) (hS : S.length ≤ 1048576) a c B' w1 (hU2 : IntsAt w1 a S.length B' S) (y : Nat) => l03In_any a S.length c B' S (y : Int) hS w1 hU2)
  obtain ⟨F, hF⟩ : ∃ F, F = nbF Q := ⟨_, rfl⟩
  obtain ⟨f, hf⟩ : ∃ f, f = leftF n K := ⟨_, rfl⟩
  have HFX : Hid (∀ y, y < n → f y = !inK K (y : Int)) := fun y hy => by rw [hf]; exact left_is hy
  have HFL : Hid (∀ y, f y = true → y < n) := fun y hy => left_lt (n := n) (K := K) (by rw [← hf]; exact hy)
  rw [← hF, ← hf] at PT
  obtain ⟨R, hR⟩ : ∃ R, R = prtsS F f (List.range' 0 n) (fun _ => false) := ⟨_, rfl⟩
  have HRR : Hid (rowsS Q n K = R.map fun p => setTo p n) := by show _ = _; unfold rowsS; rw [← hF, ← hf, ← hR]
  rw [unhide HRR]
  have HRL : Hid (R.length ≤ n) := by show _ ≤ _; rw [hR]; have := prtsS_length F f (List.range' 0 n) (fun _ => false); simpa using this
  have H0 : Hid (R = [] ++ prtsS F f (List.range' 0 (n - 0)) (fun _ => false)) := hR
  have HS1 : Hid (∀ k, k < n → ∀ D : Nat → Bool, (f k && !D k) = true → prtsS F f (List.range' k (n - k)) D = rch F f k :: prtsS F f (List.range' (k + 1) (n - (k + 1))) (andF D (rch F f k))) := fun k hk D hh => by
    rw [show n - k = (n - (k + 1)) + 1 by omega, List.range'_succ, prtsS_in hh]
    rfl
  have HS0 : Hid (∀ k, k < n → ∀ D : Nat → Bool, (f k && !D k) = false → prtsS F f (List.range' k (n - k)) D = prtsS F f (List.range' (k + 1) (n - (k + 1))) D) := fun k hk D hh => by
    rw [show n - k = (n - (k + 1)) + 1 by omega, List.range'_succ, prtsS_out hh]
  have HIN : Hid (∀ k, k < n → ∀ y : Nat, inK (setTo (rch F f k) n) (y : Int) = rch F f k y) := fun k hk y => by
    rw [inK_setTo]
    cases hr : rch F f k y
    · simp
    · rw [decide_eq_true]
      · rfl
      · by_cases e : y = k
        · omega
        · exact unhide HFL y (rch_flag (by omega) hr e)
  have HPN : Hid (∀ k, k < n → 0 < (setTo (rch F f k) n).length ∧ (setTo (rch F f k) n).length ≤ n) := fun k hk => by
    refine ⟨?_, setTo_length _ _⟩
    have h9 := unhide HIN k hk k
    rw [rch_here] at h9
    unfold inK at h9
    rw [List.contains_iff_mem] at h9
    exact List.length_pos_of_mem h9
  clear hF hf hR
  obtain ⟨a, n', c, rfl, _⟩ := hv
  go_enter Try.func50, Try.ntmps50
  go_wp2_with fail
  obtain ⟨V1, hV1⟩ : ∃ W, W = w.alloc (Obj.cells #[Value.int .i64 (n : Int), Value.slice a n' c] 30) := ⟨_, rfl⟩
  obtain ⟨V2, hV2⟩ : ∃ W, W = V1.alloc (Obj.cells #[] 26) := ⟨_, rfl⟩
  obtain ⟨V3, hV3⟩ : ∃ W, W = V2.alloc (Obj.cells #[] 3) := ⟨_, rfl⟩
  rw [← hV1, ← hV2, ← hV3]
  have z1 : V1.heap.size = w.heap.size + 1 := by rw [hV1]; simp
  have z2 : V2.heap.size = w.heap.size + 1 + 1 := by rw [hV2]; simp [z1]
  have z3 : V3.heap.size = w.heap.size + 1 + 1 + 1 := by rw [hV3]; simp [z2]
  have HX3 : Hid (GBox V3 w.heap.size (n : Int) (.slice a n' c)) := by show GBox _ _ _ _; rw [hV3, hV2, hV1]; exact ((GBox.new _ _ _).below (below_new _ _)).below (below_new _ _)
  have b3 : Below w.heap.size w V3 := by rw [hV3, hV2, hV1]; exact ((below_new _ _).alloc (by simp) _).alloc (by simp; omega) _
  have HA3 : Hid (Grps V3 (w.heap.size + 1) V3.heap.size (.slice (some ⟨w.heap.size + 1, 0, none⟩) 0 0) [] []) := by
    refine ⟨rfl, ?_, fun j h => absurd h (by simp)⟩
    rw [hV3]
    have h := World.ownsRow_made (size := 1) V1 (e := 26) #[] 0 (Nat.le_refl _) (Nat.zero_le _) (show (#[] : Array Value).size = 0 * 1 from rfl)
    rw [← hV2, z1] at h
    exact own_below h (below_new _ _)
  have HO3 : Hid (InOwn V3 (w.heap.size + 1) (.slice (some ⟨w.heap.size + 1 + 1, 0, none⟩) 0 0) []) := by
    show InOwn _ _ _ _
    have h := World.ownsRow_made V2 (e := 3) #[] 0 (Nat.le_refl _) (Nat.zero_le _) (show (#[] : Array Value).size = 0 * 1 from rfl)
    rw [← hV3, z2] at h
    exact own_lower (by omega) h
  clear hV1 hV2 hV3
  go_loopw [5, 6, 7] (fun al se i wr => ∃ (k : Nat) (D : Nat → Bool) (Ps : List (Nat → Bool)) (G : List (List Int)) (S : List Int) (vs : List Value) (C : Nat), i = .int .i64 (k : Int) ∧ k ≤ n ∧ Hid (R = Ps ++ prtsS F f (List.range' k (n - k)) D) ∧ Hid (∀ y : Nat, inK S (y : Int) = D y) ∧ S.length ≤ 9 * k ∧ Hid (G = Ps.map fun p => setTo p n) ∧ G.length ≤ k ∧ Hid (Grps wr (w.heap.size + 1) C al vs G) ∧ Hid (Dist vs) ∧ C ≤ wr.heap.size ∧ Hid (InOwn wr (w.heap.size + 1) se S) ∧ Hid (∀ g, se.ownBlock = some g → ∀ j (h : j < vs.length), vs[j].ownBlock ≠ some g) ∧ Hid (GBox wr w.heap.size (n : Int) (.slice a n' c)) ∧ Below w.heap.size w wr) (fun _ _ i _ => n - (intOf i).toNat)
  case atStart => exact ⟨0, _, [], [], [], [], _, rfl, Nat.zero_le _, H0, (fun y => rfl), Nat.le_refl _, rfl, Nat.le_refl _, HA3, Dist.nil, Nat.le_refl _, HO3, (fun _ _ j h => absurd h (by simp)), HX3, b3⟩
  case round =>
    clear HA3 HO3 HX3 b3 H0
    obtain ⟨k, D, Ps, G, S, vs, C, rfl, hk, HR, HSD, hSl, HG, hGl, HA, HDI, hC, HO, HDJ, HX, hb⟩ := hrel
    obtain ⟨p0, p1⟩ := (unhide HX).cells
    have hXl := (unhide HX).lt
    obtain ⟨As, cs, rfl, hIs⟩ := intsAt_of_own (unhide HO)
    obtain ⟨Aa, ca, rfl⟩ := row_shape (unhide HA).2.1
    by_cases hlt : k < n
    · have IUK := hide (unhide IU S (by omega) As cs wr.heap.size wr hIs k)
      rw [unhide HSD k] at IUK
      have IKK := hide (unhide IK (k : Int) wr hb)
      have hfk := unhide HFX k hlt
      have hki1 : (k : Int) < (n : Int) := by omega
      have hki0 : (0 : Int) ≤ (k : Int) := by omega
      have HRO : Hid ((f k && !D k) = false → R = Ps ++ prtsS F f (List.range' (k + 1) (n - (k + 1))) D) := fun h => by rw [← unhide HS0 k hlt D h]; exact unhide HR
      have HRI : Hid ((f k && !D k) = true → R = (Ps ++ [rch F f k]) ++ prtsS F f (List.range' (k + 1) (n - (k + 1))) (andF D (rch F f k))) := fun h => by rw [List.append_assoc, List.singleton_append, ← unhide HS1 k hlt D h]; exact unhide HR
      rw [hfk] at HRO HRI
      cases hik : inK K (k : Int)
      · rw [hik] at IKK HRO HRI
        cases hdk : D k
        · rw [hdk] at IUK HRO HRI
          have HR' := hide (unhide HRI (by rfl))
          have HIK := hide (unhide HIN k hlt)
          obtain ⟨hpl0, hpl9⟩ := unhide HPN k hlt
          have PTK := hide (unhide PT k hlt wr hb)
          have HSD' : Hid (∀ y : Nat, inK (S ++ setTo (rch F f k) n) (y : Int) = andF D (rch F f k) y) := fun y => by
            rw [inK_app, unhide HSD y, unhide HIK y]
            rfl
          have HG' : Hid (G ++ [setTo (rch F f k) n] = (Ps ++ [rch F f k]).map fun p => setTo p n) := by
            show _ = _
            rw [List.map_append, ← unhide HG]
            rfl
          obtain ⟨P, hP⟩ : ∃ P, P = setTo (rch F f k) n := ⟨_, rfl⟩
          rw [← hP] at PTK HSD' HG' hpl0 hpl9
          have hown := unhide HO
          unfold InOwn at hown
          have hzb := hb.size
          clear HRO HRI hdk hik hfk HIK hP HO
          go_wp2_with fail
          refine (unhide IKK).mono ?_
          rintro e w5 ⟨rfl, hw5⟩
          have hw6 := hw5.symm
          subst hw6
          clear hw5
          go_wp2_with fail
          refine (unhide IUK).mono ?_
          rintro e w5 ⟨rfl, hw5⟩
          have hw6 := hw5.symm
          subst hw6
          clear hw5
          go_wp2_with fail
          refine (unhide PTK).mono ?_
          rintro e w5 ⟨⟨d, rfl, hd⟩, hb5⟩
          unfold InOwn at hd
          obtain ⟨gp, cp, rfl, hgp, hgp5⟩ := World.ownsRow.form hd hpl0
          have hNW := ints_cellsL hd
          have hz5 := hb5.size
          have hown5 := own_below hown hb5
          have b5 : Below w.heap.size w w5 := hb.trans (hb5.mono hb.size)
          have HX5 := hide ((unhide HX).below hb5)
          have HA5 := hide ((unhide HA).below hb5)
          have hSP : S.length + P.length ≤ 9 * (k + 1) := by omega
          have hbl : ∀ g, (Value.slice As S.length cs).ownBlock = some g → w.heap.size + 1 ≤ g ∧ g < wr.heap.size := fun g hg => World.ownsRow.lt hown g hg
          have HHD := hide hd
          have HB5 := hide b5
          clear PTK hown hb5 IKK IUK hIs p0 p1
          go_wp2_with (at_builtin; refine wpList_append_own_at _ rfl _ _ 26 rfl (w.heap.size + 1) 3 i0 (.int .i64 0) 1 8 Try.underlying26 hi hz0 hz1 hz2 rfl (by decide) _ _ _ rfl hown5 ⟨gp, 0, none⟩ P.length cp (intsV P) rfl (intsV_lenL P) hNW (intsV_oneL P) ?_ ?_ ?_ ?_)
          · unfold maxLen; omega
          · omega
          · omega
          intro se' w6 hown6 hgrow6 _ hat6
          rw [← intsV_appL] at hown6
          have hSl6 : S.length + P.length = (S ++ P).length := by simp
          rw [hSl6] at hown6
          clear hSl6
          have hb56 : Below (w.heap.size + 1) w5 w6 := (Below.refl _ _).grown hgrow6 (by omega) (fun k hk => (World.ownsRow.lt hown5 k hk).1)
          have b6 : Below w.heap.size w w6 := (unhide HB5).trans (hb56.mono (by omega))
          have HX6 : Hid (GBox w6 w.heap.size (n : Int) (.slice a n' c)) := by
            have h9 := unhide HX5
            exact (hgrow6.block _ h9.lt (fun e => by have h8 := World.ownsRow.lt hown5 w.heap.size e.symm; omega)).trans h9
          have hk6 : Kept (fun g => (Value.slice As S.length cs).ownBlock = some g) w5 w6 := Gr.Kept.of_grown hgrow6
          have HA6 : Hid (Grps w6 (w.heap.size + 1) C (.slice Aa G.length ca) vs G) := (unhide HA5).kept hk6 (fun g hg hs => own_ne (unhide HA5).2.1 hown5 hg hs) (fun j h g hg hs => unhide HDJ g hs j h hg)
          have HP6 : Hid (World.ownsRow w6 wr.heap.size 3 1 (.slice (some ⟨gp, 0, none⟩) P.length cp) P.length (intsV P)) := World.ownsRow.kept (unhide HHD) hgrow6 (.inr (fun e => by
            have := hbl gp (by rw [← e]; rfl)
            omega))
          have hz6 := hgrow6.size
          have HDJ6 : Hid (∀ g, se'.ownBlock = some g → (∀ j (h : j < vs.length), vs[j].ownBlock ≠ some g) ∧ gp ≠ g) := fun g hg => by
            rcases hat6 with hat | hat
            · rw [hat] at hg
              refine ⟨unhide HDJ g hg, fun e => ?_⟩
              have := hbl g hg
              omega
            · rw [hat] at hg
              have hge : w5.heap.size = g := by simpa using hg
              refine ⟨fun j h e => ?_, by omega⟩
              have := ((unhide HA5).2.2 j h (by rw [← (unhide HA5).1]; exact h)).2 g e
              omega
          have HO6 : Hid (InOwn w6 (w.heap.size + 1) se' (S ++ P)) := hown6
          obtain ⟨T, hT⟩ : ∃ T, T = S ++ P := ⟨_, rfl⟩
          rw [← hT] at HO6 HSD'
          have hTl : T.length ≤ 9 * (k + 1) := by rw [hT]; simp; omega
          clear hT
          obtain ⟨As6, cs6, rfl, _⟩ := intsAt_of_own (unhide HO6)
          have HDJ7 := HDJ6
          clear hown6 hgrow6 hown5 HX5 HA5 HHD HDJ hb56 hat6 hk6 hNW hd HDJ6
          have hownA := (unhide HA6).2.1
          have b7 := below_new w6 (Obj.cells #[Value.slice (some ⟨gp, 0, none⟩) P.length cp] 26)
          go_wp2_with (at_builtin; refine wpList_append_own_at _ rfl _ _ 37 rfl (w.heap.size + 1) 26 i1 (.slice none 0 0) 1 24 Try.underlying37 hi1 hy0 hy1 hy2 rfl (by decide) _ _ _ rfl (own_below hownA b7) ⟨w6.heap.size, 0, none⟩ 1 1 [Value.slice (some ⟨gp, 0, none⟩) P.length cp] rfl rfl (cell_one_new _ _ _) (by simp [Value.oneCell']) ?_ ?_ ?_ ?_)
          · unfold maxLen; omega
          · omega
          · simp; omega
          intro al' w8 hown8 hgrow8 _ hat8
          have hA7 := (unhide HA6).below b7
          have hP7 := own_below (unhide HP6) b7
          have hO7 := own_below (unhide HO6) b7
          have hk8 : Kept (fun g => (Value.slice Aa G.length ca).ownBlock = some g) (w6.alloc (Obj.cells #[Value.slice (some ⟨gp, 0, none⟩) P.length cp] 26)) w8 := Gr.Kept.of_grown hgrow8
          have hz8 : w6.heap.size < w8.heap.size := by have := hgrow8.size; simp at this; omega
          have HA8 : Hid (Grps w8 (w.heap.size + 1) w8.heap.size al' (vs ++ [Value.slice (some ⟨gp, 0, none⟩) P.length cp]) (G ++ [P])) := hA7.snoc (own_lower (by omega) hP7) (fun g hg => by simp [Value.ownBlock] at hg; omega) (by omega) hown8 hk8
          have HDI8 : Hid (Dist (vs ++ [Value.slice (some ⟨gp, 0, none⟩) P.length cp])) := (unhide HDI).snoc (C := wr.heap.size) (fun j h g hg => by
            have := (hA7.2.2 j h (by rw [← hA7.1]; exact h)).2 g hg
            omega) (fun g hg => by simp [Value.ownBlock] at hg; omega)
          have HO8 : Hid (InOwn w8 (w.heap.size + 1) (.slice As6 T.length cs6) T) := hk8.own hO7 (fun g hg hs => own_ne hA7.2.1 hO7 hs hg)
          have HDJ8 : Hid (∀ g, (Value.slice As6 T.length cs6).ownBlock = some g → ∀ j (h : j < (vs ++ [Value.slice (some ⟨gp, 0, none⟩) P.length cp]).length), (vs ++ [Value.slice (some ⟨gp, 0, none⟩) P.length cp])[j].ownBlock ≠ some g) := fun g hg j h e => by
            obtain ⟨h1, h2⟩ := unhide HDJ7 g hg
            by_cases hj : j < vs.length
            · rw [List.getElem_append_left hj] at e
              exact h1 j hj e
            · have hj3 : j = vs.length := by simp at h; omega
              subst hj3
              simp [Value.ownBlock] at e
              exact h2 e
          have HX8 : Hid (GBox w8 w.heap.size (n : Int) (.slice a n' c)) := by
            have h9 := (unhide HX6).below b7
            exact (hgrow8.block _ h9.lt (fun e => by have h8 := World.ownsRow.lt hownA w.heap.size e.symm; omega)).trans h9
          obtain ⟨Aa8, ca8, rfl⟩ := row_shape hown8
          have b8 : Below w.heap.size w w8 := (b6.trans (b7.mono b6.size)).trans (((Below.refl (w.heap.size + 1) _).grown hgrow8 (by simp; omega) (fun k hk => (World.ownsRow.lt hownA k hk).1)).mono (by omega))
          have hGl8 : (G ++ [P]).length ≤ k + 1 := by simp; omega
          clear hown8 hgrow8 hat8 hA7 hP7 hO7 hk8 hownA b7 HA6 HP6 HO6 HX6 HDJ7 HDI HX
          go_wp2_with fail
          exact ⟨⟨k + 1, _, _, _, _, _, _, by go_num, by omega, HR', HSD', hTl, HG', hGl8, HA8, HDI8, Nat.le_refl _, HO8, HDJ8, HX8, b8⟩, by simp [intOf]; omega⟩
        · rw [hdk] at IUK HRO
          have HR' := hide (unhide HRO (by rfl))
          clear HRO HRI hdk hik hfk
          go_wp2_with fail
          refine (unhide IKK).mono ?_
          rintro e w5 ⟨rfl, hw5⟩
          have hw6 := hw5.symm
          subst hw6
          clear hw5
          go_wp2_with fail
          refine (unhide IUK).mono ?_
          rintro e w5 ⟨rfl, hw5⟩
          have hw6 := hw5.symm
          subst hw6
          clear hw5
          go_wp2_with fail
          exact ⟨⟨k + 1, D, Ps, G, S, vs, C, by go_num, by omega, HR', HSD, by omega, HG, by omega, HA, HDI, hC, HO, HDJ, HX, hb⟩, by simp [intOf]; omega⟩
      · rw [hik] at IKK HRO
        have HR' := hide (unhide HRO (by simp))
        clear HRO HRI hik hfk IUK
        go_wp2_with fail
        refine (unhide IKK).mono ?_
        rintro e w5 ⟨rfl, hw5⟩
        have hw6 := hw5.symm
        subst hw6
        clear hw5
        go_wp2_with fail
        exact ⟨⟨k + 1, D, Ps, G, S, vs, C, by go_num, by omega, HR', HSD, by omega, HG, by omega, HA, HDI, hC, HO, HDJ, HX, hb⟩, by simp [intOf]; omega⟩
    · obtain rfl : k = n := by omega
      have hr : R = Ps := by rw [unhide HR]; simp [prtsS]
      have HA' := hide ((unhide HA).lower (show w.heap.size ≤ w.heap.size + 1 by omega))
      rw [unhide HG, ← hr] at HA'
      have hgl : G.length = (R.map fun p => setTo p k).length := by rw [unhide HG, ← hr]
      rw [← hgl] at HA'
      go_wp2_with fail
      go_ret
      exact ⟨⟨_, vs, C, rfl, unhide HA', unhide HDI, hC⟩, hb⟩

end Lk
end Go.Proofs.Ytejfknkcakeakaa
