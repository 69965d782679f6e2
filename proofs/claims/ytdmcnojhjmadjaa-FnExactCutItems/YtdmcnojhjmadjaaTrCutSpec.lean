/-
  The contract of spec.CutItems: its groups are those of the rule.
-/
import Derived.Test.YtdmcnojhjmadjaaTrGrp
import Derived.Test.YtdmcnojhjmadjaaTrCut
import Derived.Test.YtdmcnojhjmadjaaPgEnds
import Derived.Deep.DeepCutAuto
namespace Go.Proofs.Ytdmcnojhjmadjaa
namespace Tr
open Go.RowKit
open Go.Proofs.Ytdmcnojhjmadjaa.Pg

theorem own_shape {w : World} {B e s n : Nat} {v : Value} {xs : List Value} (h : w.ownsRow B e s v n xs) : ∃ A c, v = .slice A n c := by
  rcases h.2 with ⟨rfl, h0⟩ | ⟨g, cap, cur, rfl, _⟩
  · exact ⟨none, 0, by rw [h0]⟩
  · exact ⟨_, _, rfl⟩

/-- An append to a row that lies behind all groups leaves the groups as they are. -/
theorem Grps.now {W w1 : World} {B b m : Nat} {v nv : Value} {vs ys : List Value} {G : List (List It)} {o : Obj} (h : Grps W B b v vs G) (hn : W.ownsRow b 68 3 nv m ys) (hg : (W.alloc o).grownBy w1 nv.ownBlock) : Grps w1 B b v vs G := by
  have h2 := h.below (below_new W o)
  refine h2.kept (Kept.of_grown hg) (fun g hg' e => own_ne h.2.1 hn hg' e) (fun j h1 g hg' e => ?_)
  have h3 := (h.2.2 j h1 (by rw [← h.1]; exact h1)).2 g hg'
  have h4 := (hn.lt g e).1
  omega

/-- A row that lies behind all groups becomes one. -/
theorem Grps.push {W w1 : World} {B b m n : Nat} {v v' nv : Value} {vs : List Value} {G : List (List It)} {nw : List It} {o : Obj} (h : Grps W B b v vs G) (hgo : n = G.length) (hn : W.ownsRow b 68 3 nv m (itsV nw)) (hm : m = nw.length) (hB : B ≤ b) (hb : b ≤ W.heap.size)
    (hg : (W.alloc o).grownBy w1 v.ownBlock) (hown : w1.ownsRow B 33 1 v' (n + 1) (vs ++ [nv])) : Grps w1 B w1.heap.size v' (vs ++ [nv]) (G ++ [nw]) := by
  subst hm hgo
  have hs := hg.size
  simp at hs
  exact (h.below (below_new W o)).snoc (own_lower hB (hn.alloc o)) (fun g e => by have := (hn.lt g e).2; omega) (by omega) hown (Kept.of_grown hg)

/-- Where the cutting stands behind i items. -/
def CutInv (w : World) (k : Int) (Q : List It) (wr : World) (out now : Value) (i sz : Nat) : Prop :=
  ∃ (vs : List Value) (G : List (List It)) (nw : List It) (b go m : Nat), go = G.length ∧ m = nw.length ∧ wr.ownsRow w.heap.size 33 1 out go vs ∧ Grps wr w.heap.size b out vs G ∧ wr.ownsRow b 68 3 now m (itsV nw) ∧ w.heap.size ≤ b ∧ b ≤ wr.heap.size ∧ go + m ≤ i ∧ m ≤ i ∧
    G ++ cutFrom k nw sz (Q.drop i) = cutG k Q ∧ Below w.heap.size w wr

theorem three_one (a b : ByteArray) (p : Int) : ∀ u, u ∈ [Value.string a, Value.string b, Value.int .i64 p] → u.oneCell' = true := by
  intro u hu; simp at hu; rcases hu with rfl | rfl | rfl <;> rfl
theorem slice_one (a : Option Addr) (m c : Nat) : ∀ u, u ∈ [Value.slice a m c] → u.oneCell' = true := by
  intro u hu; simp at hu; subst hu; rfl
theorem news_three (W : World) (a b : ByteArray) (p : Int) (t : TypeId) : ∀ j u, [Value.string a, Value.string b, Value.int .i64 p][j]? = some u → (W.alloc (Obj.cells #[.string a, .string b, .int .i64 p] t)).cell? ((⟨W.heap.size, 0, none⟩ : Addr).add j) = some u :=
  World.news_of_block (heap_alloc_new W (Obj.cells #[.string a, .string b, .int .i64 p] t))

set_option maxRecDepth 100000 in
set_option maxHeartbeats 4000000 in
theorem specCut_one (a : Option Addr) (len cap B : Nat) (Q : List It) (hlen : len ≤ 1048576) (hsm : ∀ x ∈ Q, x.key.size ≤ 1048576 ∧ x.val.size ≤ 1048576) (w : World) (hB : B ≤ w.heap.size) (hs : ItemsAt w a len B Q) :
    Calls Try.prog 12 #[.int .i64 (1 : Int), .slice a len cap] w fun e w' => (∃ v vs, e = .returned v ∧ Grps w' w.heap.size w'.heap.size v vs (cutG (1 : Int) Q)) ∧ Below w.heap.size w w' := by
  obtain ⟨i1, hj1, hy0, hy1, hy2⟩ := info_parts infoItem
  obtain ⟨i0, hi0, hz0, hz1, hz2⟩ := info_parts infoRow
  obtain ⟨hL, hc⟩ := hs
  have HC := hide hc
  have HL := hide hL
  have HSM := hide hsm
  clear hc hL hsm
  go_enter Try.func12, Try.ntmps12
  go_wp2_with fail
  go_loopw [5, 6, 7, 8] (fun out now a7 a8 wr => ∃ i sz : Nat, a8 = .int .i64 (i : Int) ∧ i ≤ len ∧ a7 = .int .i64 (sz : Int) ∧ sz ≤ i * 3000000 ∧ CutInv w (1 : Int) Q wr out now i sz) (fun _ _ _ a8 _ => len - (intOf a8).toNat)
  case atStart =>
    have h1 := World.ownsRow_made (e := 33) w #[] 0 (Nat.le_refl _) (Nat.zero_le _) (show (#[] : Array Value).size = 0 * 1 from rfl)
    have h2 := World.ownsRow_made (e := 68) (w.alloc (Obj.cells #[] 33)) #[] 0 (Nat.le_refl _) (Nat.zero_le _) (show (#[] : Array Value).size = 0 * 3 from rfl)
    have hz : (w.alloc (Obj.cells #[] 33)).heap.size = w.heap.size + 1 := by simp
    rw [hz] at h2
    refine ⟨0, 0, rfl, Nat.zero_le _, rfl, Nat.zero_le _, [], [], [], w.heap.size + 1, 0, 0, rfl, rfl, h1.alloc _, ⟨rfl, h1.alloc _, fun j h => by simp at h⟩, h2, by omega, by simp, Nat.le_refl _, Nat.le_refl _, rfl, ?_⟩
    exact ((Below.refl _ _).alloc (Nat.le_refl _) _).alloc (by simp) _
  case round =>
    obtain ⟨i, sz, rfl, hi, rfl, hsz, vs, G, nw, b, go, m, hgo, hm, hown, hg, hnow, hwb, hb, hgi, hmi, hcut, hbl⟩ := hrel
    obtain ⟨AO, CO, rfl⟩ := own_shape hown
    obtain ⟨AN, CN, rfl⟩ := own_shape hnow
    have HO := hide hown
    have HG := hide hg
    have HNW := hide hnow
    have HCUT := hide hcut
    have HGO := hide hgo
    have HM := hide hm
    clear hown hg hnow hcut hgo hm
    by_cases hlt : i < len
    · have hiL : i < Q.length := by have := unhide HL; omega
      obtain ⟨bx, off, rfl, hbB, hc0, hc1, hc2⟩ := unhide HC i hiL
      have hbx : bx < w.heap.size := by omega
      rw [← hbl.cell (p := ⟨bx, off + i * 3, none⟩) (by simp; omega)] at hc0
      rw [← hbl.cell (p := ⟨bx, off + i * 3 + 1, none⟩) (by simp; omega)] at hc1
      rw [← hbl.cell (p := ⟨bx, off + i * 3 + 2, none⟩) (by simp; omega)] at hc2
      have hx0 : (0 : Int) ≤ (i : Int) := by omega
      have hx1 : (i : Int) < (len : Int) := by omega
      have hsm := unhide HSM _ (List.getElem_mem hiL)
      have HSZ := hide (fun w => specSize_any (1 : Int) Q[i] hsm.1 hsm.2 w)
      have HEN := hide (fun w => specEnds_any Q[i].key (by omega) w)
      have hzl := itSize_le (1 : Int) Q[i]
      have hz3 : itSize (1 : Int) Q[i] ≤ 3000000 := by omega
      have hdr : Q.drop i = Q[i] :: Q.drop (i + 1) := List.drop_eq_getElem_cons hiL
      rw [hdr] at HCUT
      have HEE : Hid (endsAt (1 : Int) Q[i] = (decide ((1 : Int) = 1) && (((sumB Q[i].key : Nat) : Int) % 4 == 0))) := rfl
      generalize (((sumB Q[i].key : Nat) : Int) % 4 == 0) = en at HEN HEE
      generalize Q[i] = x at hc0 hc1 hc2 HSZ HEN HCUT HEE hz3
      have HSNOC : Hid (∀ L : List It, itsV (L ++ [x]) = itsV L ++ [.string x.key, .string x.val, .int .i64 x.pg]) := fun L => itsV_snoc L x
      have HITV : Hid (itV x = .agg #[.string x.key, .string x.val, .int .i64 x.pg]) := rfl
      generalize hzz : itSize (1 : Int) x = z at HSZ hz3
      have HZZ := hide hzz
      generalize x.key = kx at hc0 HSNOC HEN HITV
      generalize x.val = vx at hc1 HSNOC HITV
      generalize x.pg = px at hc2 HSNOC HITV
      rw [unhide HITV] at HSZ
      clear hzl hsm hdr HITV hzz
      -- how great the item is
      go_wp2_with fail
      refine (unhide HSZ _).mono ?_
      rintro e W ⟨rfl, hbW⟩
      have hblW := hbl.trans (hbW.mono hbl.size)
      have HOW := hide (own_below (unhide HO) hbW)
      have HGW := hide ((unhide HG).below hbW)
      have HNWW := hide (own_below (unhide HNW) hbW)
      have hzW := hbW.size
      have d0 := (hbW.cell (p := ⟨bx, off + i * 3, none⟩) (by simp; have := hbl.size; omega)).trans hc0
      have d1 := (hbW.cell (p := ⟨bx, off + i * 3 + 1, none⟩) (by simp; have := hbl.size; omega)).trans hc1
      have d2 := (hbW.cell (p := ⟨bx, off + i * 3 + 2, none⟩) (by simp; have := hbl.size; omega)).trans hc2
      clear hbW HO HG HNW hbl hc0 hc1 hc2 HSZ
      have hbW2 : b ≤ W.heap.size := by omega
      by_cases hfull : 0 < m ∧ 54 < sz + z
      · -- the group is at its end ahead of this item
        have hf1 : (0 : Int) < (m : Int) := by omega
        have hf2 : (54 : Int) < (sz : Int) + (z : Int) := by omega
        have hoW := unhide HOW
        go_wp2_with (at_builtin; refine wpList_append_own _ rfl _ _ 31 rfl w.heap.size 33 i0 (.slice none 0 0) 1 24 Try.underlying31 hi0 hz0 hz1 hz2 rfl (by decide) _ go _ rfl (hoW.alloc _) ⟨W.heap.size, 0, none⟩ 1 1 [.slice AN m CN] rfl rfl (cell_one_new _ _ _) (slice_one _ _ _) ?_ ?_ ?_ ?_)
        · unfold maxLen; omega
        · omega
        · have := hblW.size; simp; omega
        intro v3 w3 hown3 hgrow3 _
        have hg3 := (unhide HGW).push (unhide HGO) (unhide HNWW) (unhide HM) hwb hbW2 hgrow3 hown3
        have hbl3 := below_append hblW (Nat.le_refl _) hoW hgrow3
        have hz3w := hgrow3.size
        simp at hz3w
        have HG3 := hide hg3
        have HO3 := hide hown3
        obtain ⟨A3, C3, rfl⟩ := own_shape hown3
        have HCUT3 : Hid ((G ++ [nw]) ++ cutFrom (1 : Int) [] 0 (x :: Q.drop (i + 1)) = cutG (1 : Int) Q) := by
          show _ = _
          have h := unhide HCUT
          rw [cutFrom_full (1 : Int) nw sz x _ (by intro h0; have := unhide HM; rw [h0] at this; simp at this; omega) (by rw [unhide HZZ]; omega)] at h
          simpa using h
        have HGO3 : Hid (go + 1 = (G ++ [nw]).length) := by show _ = _; rw [List.length_append, ← unhide HGO]; rfl
        have HNOT3 : Hid (¬ (([] : List It) ≠ [] ∧ 54 < 0 + itSize (1 : Int) x)) := fun h => h.1 rfl
        clear hown3 hgrow3 hoW hg3
        go_upto_region 12 with fail
        obtain ⟨V, hV⟩ : ∃ V, V = w3.alloc (Obj.cells #[] 68) := ⟨_, rfl⟩
        rw [← hV]
        have hbV : Below w3.heap.size w3 V := by rw [hV]; exact below_new _ _
        have hsV : w3.heap.size < V.heap.size := by rw [hV]; simp
        have HNV : Hid (V.ownsRow w3.heap.size 68 3 (.slice (some ⟨w3.heap.size, 0, none⟩) 0 0) 0 (itsV [])) := by
          show World.ownsRow _ _ _ _ _ _ _
          rw [hV]
          exact World.ownsRow_made w3 #[] 0 (Nat.le_refl _) (Nat.zero_le _) (show (#[] : Array Value).size = 0 * 3 from rfl)
        clear hV
        have HGV := hide ((unhide HG3).below hbV)
        have HOV := hide (own_below (unhide HO3) hbV)
        have hblV := hbl3.trans (hbV.mono hbl3.size)
        have HMV : Hid (0 = ([] : List It).length) := rfl
        have e0 := (hbV.cell (p := ⟨bx, off + i * 3, none⟩) (by simp; have := hbl3.size; omega)).trans ((hbl3.cell (p := ⟨bx, off + i * 3, none⟩) hbx).trans ((hblW.cell (p := ⟨bx, off + i * 3, none⟩) hbx).symm.trans d0))
        have e1 := (hbV.cell (p := ⟨bx, off + i * 3 + 1, none⟩) (by simp; have := hbl3.size; omega)).trans ((hbl3.cell (p := ⟨bx, off + i * 3 + 1, none⟩) hbx).trans ((hblW.cell (p := ⟨bx, off + i * 3 + 1, none⟩) hbx).symm.trans d1))
        have e2 := (hbV.cell (p := ⟨bx, off + i * 3 + 2, none⟩) (by simp; have := hbl3.size; omega)).trans ((hbl3.cell (p := ⟨bx, off + i * 3 + 2, none⟩) hbx).trans ((hblW.cell (p := ⟨bx, off + i * 3 + 2, none⟩) hbx).symm.trans d2))
        have hwb3 := hbl3.size
        have hvz := hbV.size
        clear hbV hbl3 hblW d0 d1 d2 HG3 HO3 HGW HOW HNWW HCUT
        have hnV := unhide HNV
        go_wp2_with (at_builtin; refine wpList_append_own _ rfl _ _ 33 rfl w3.heap.size 68 i1 (.agg #[.string ⟨#[]⟩, .string ⟨#[]⟩, .int .i64 0]) 3 40 Try.underlying33 hj1 hy0 hy1 hy2 rfl (by decide) _ 0 _ rfl (hnV.alloc _) ⟨V.heap.size, 0, none⟩ 1 1 [.string kx, .string vx, .int .i64 px] rfl rfl (news_three _ _ _ _ _) (three_one _ _ _) ?_ ?_ ?_ ?_)
        · unfold maxLen; omega
        · omega
        · simp; omega
        intro v4 w4 hown4 hgrow4 _
        have hg4 := (unhide HGV).now hnV hgrow4
        have hbl4 := below_append (B := w3.heap.size) (w := V) (wr := V) (Below.refl _ _) (by omega) hnV hgrow4
        have hbw4 := hblV.trans (hbl4.mono (by omega))
        have ho4 := hg4.2.1
        rw [← unhide HGO3] at ho4
        have hz4 := hgrow4.size
        simp at hz4
        rw [← unhide HSNOC] at hown4
        have HN4 := hide hown4
        have HG4 := hide hg4
        have HO4 := hide ho4
        have HM4 : Hid (0 + 1 = ([] ++ [x]).length) := by show _ = _; rw [List.length_append, ← unhide HMV]; rfl
        obtain ⟨A4, C4, rfl⟩ := own_shape hown4
        have f0 := (hbl4.cell (p := ⟨bx, off + i * 3, none⟩) (by simp; omega)).trans e0
        clear hown4 hgrow4 hg4 ho4 hnV hbl4 e0 e1 e2 HGV HOV HNV
        have hsb : ((0 : Nat) : Int) ≤ 4000000000000 := by omega
        have hsb0 : (0 : Int) ≤ ((0 : Nat) : Int) := by omega
        have hzb : (z : Int) ≤ 3000000 := by omega
        have hzb0 : (0 : Int) ≤ (z : Int) := by omega
        have HEE : Hid (endsAt (1 : Int) x = en) := by show _ = _; have h := unhide HEE; simpa using h
        go_wp2_with fail
        refine (unhide HEN _).mono ?_
        rintro e w4x ⟨rfl, hw4x⟩
        subst w4x
        cases en
        · have HCUT4 : Hid ((G ++ [nw]) ++ cutFrom (1 : Int) ([] ++ [x]) ((0 + z)) (Q.drop (i + 1)) = cutG (1 : Int) Q) := by
            show _ = _
            rw [← unhide HCUT3, cutFrom_on (1 : Int) [] 0 x _ (unhide HNOT3) (unhide HEE), unhide HZZ]
          clear HCUT3
          go_wp2
          go_roundw
          case rel => exact ⟨i + 1, (0 + z), by go_num, by omega, by go_num, by omega, _, _, _, w3.heap.size, go + 1, 0 + 1, unhide HGO3, unhide HM4, unhide HO4, unhide HG4, unhide HN4, by omega, by omega, by omega, by omega, unhide HCUT4, hbw4⟩
          case measure => simp [intOf]; omega
        · have HCUT4 : Hid (((G ++ [nw]) ++ [[] ++ [x]]) ++ cutFrom (1 : Int) [] 0 (Q.drop (i + 1)) = cutG (1 : Int) Q) := by
            show _ = _
            rw [← unhide HCUT3, cutFrom_ends (1 : Int) [] 0 x _ (unhide HNOT3) (unhide HEE)]
            simp
          clear HCUT3
          have hoW4 := unhide HO4
          go_wp2_with (at_builtin; refine wpList_append_own _ rfl _ _ 31 rfl w.heap.size 33 i0 (.slice none 0 0) 1 24 Try.underlying31 hi0 hz0 hz1 hz2 rfl (by decide) _ (go + 1) _ rfl (hoW4.alloc _) ⟨w4.heap.size, 0, none⟩ 1 1 [.slice A4 (0 + 1) C4] rfl rfl (cell_one_new _ _ _) (slice_one _ _ _) ?_ ?_ ?_ ?_)
          · unfold maxLen; omega
          · omega
          · simp; omega
          intro v5 w5 hown5 hgrow5 _
          have hown5 : w5.ownsRow w.heap.size 33 1 v5 (go + 1 + 1) ((vs ++ [Value.slice AN m CN]) ++ [.slice A4 (0 + 1) C4]) := by first | exact hown5 | simpa using hown5
          have hg5 := (unhide HG4).push (unhide HGO3) (unhide HN4) (unhide HM4) (by omega) (by omega) hgrow5 (by first | exact hown5 | simpa using hown5)
          have hbl5 := below_append hbw4 (Nat.le_refl _) hoW4 hgrow5
          have hz5 := hgrow5.size
          simp at hz5
          have HG5 := hide (hg5.below (below_new w5 (Obj.cells #[] 68)))
          have HO5 := hide (hown5.alloc (Obj.cells #[] 68))
          have HGO5 : Hid (go + 1 + 1 = ((G ++ [nw]) ++ [[] ++ [x]]).length) := by show _ = _; rw [List.length_append, ← unhide HGO3]; rfl
          have HN5 : Hid ((w5.alloc (Obj.cells #[] 68)).ownsRow w5.heap.size 68 3 (.slice (some ⟨w5.heap.size, 0, none⟩) 0 0) 0 (itsV [])) :=
            World.ownsRow_made w5 #[] 0 (Nat.le_refl _) (Nat.zero_le _) (show (#[] : Array Value).size = 0 * 3 from rfl)
          have HBL5 := hide (hbl5.alloc hbl5.size (Obj.cells #[] 68))
          have hws5 := hbl5.size
          obtain ⟨A5, C5, rfl⟩ := own_shape hown5
          clear hown5 hgrow5 hg5 hoW4 hbl5 HG4 HO4 HN4
          go_wp2
          go_roundw
          case rel => exact ⟨i + 1, 0, by go_num, by omega, rfl, by omega, _, _, [], w5.heap.size, go + 1 + 1, 0, unhide HGO5, rfl, unhide HO5, unhide HG5, unhide HN5, by omega, by simp, by omega, by omega, unhide HCUT4, unhide HBL5⟩
          case measure => simp [intOf]; omega
      · have HNOTW : Hid (¬ (nw ≠ [] ∧ 54 < sz + itSize (1 : Int) x)) := fun h => hfull ⟨by have := unhide HM; have := List.length_pos_iff.2 h.1; omega, by rw [← unhide HZZ]; exact h.2⟩
        have hblW' := hblW
        by_cases hm0 : (0 : Int) < (m : Int)
        · have hf2 : ¬ (54 : Int) < (sz : Int) + (z : Int) := by omega
          go_upto_region 12 with fail
          have hnV := unhide HNWW
          go_wp2_with (at_builtin; refine wpList_append_own _ rfl _ _ 33 rfl b 68 i1 (.agg #[.string ⟨#[]⟩, .string ⟨#[]⟩, .int .i64 0]) 3 40 Try.underlying33 hj1 hy0 hy1 hy2 rfl (by decide) _ m _ rfl (hnV.alloc _) ⟨W.heap.size, 0, none⟩ 1 1 [.string kx, .string vx, .int .i64 px] rfl rfl (news_three _ _ _ _ _) (three_one _ _ _) ?_ ?_ ?_ ?_)
          · unfold maxLen; omega
          · omega
          · simp; omega
          intro v4 w4 hown4 hgrow4 _
          have hg4 := (unhide HGW).now hnV hgrow4
          have hbl4 := below_append (B := b) (w := W) (wr := W) (Below.refl _ _) hbW2 hnV hgrow4
          have hbw4 := hblW.trans (hbl4.mono hwb)
          have ho4 := hg4.2.1
          rw [← unhide HGO] at ho4
          have hz4 := hgrow4.size
          simp at hz4
          rw [← unhide HSNOC] at hown4
          have HN4 := hide hown4
          have HG4 := hide hg4
          have HO4 := hide ho4
          have HM4 : Hid (m + 1 = (nw ++ [x]).length) := by show _ = _; rw [List.length_append, ← unhide HM]; rfl
          obtain ⟨A4, C4, rfl⟩ := own_shape hown4
          have f0 := (hbl4.cell (p := ⟨bx, off + i * 3, none⟩) (by simp; omega)).trans d0
          clear hown4 hgrow4 hg4 ho4 hnV hbl4 d0 d1 d2 HGW HOW HNWW
          have hsb : ((sz : Nat) : Int) ≤ 4000000000000 := by omega
          have hsb0 : (0 : Int) ≤ ((sz : Nat) : Int) := by omega
          have hzb : (z : Int) ≤ 3000000 := by omega
          have hzb0 : (0 : Int) ≤ (z : Int) := by omega
          have HEE : Hid (endsAt (1 : Int) x = en) := by show _ = _; have h := unhide HEE; simpa using h
          go_wp2_with fail
          refine (unhide HEN _).mono ?_
          rintro e w4x ⟨rfl, hw4x⟩
          subst w4x
          cases en
          · have HCUT4 : Hid (G ++ cutFrom (1 : Int) (nw ++ [x]) (sz + z) (Q.drop (i + 1)) = cutG (1 : Int) Q) := by
              show _ = _
              rw [← unhide HCUT, cutFrom_on (1 : Int) nw sz x _ (unhide HNOTW) (unhide HEE), unhide HZZ]
            clear HCUT
            go_wp2
            go_roundw
            case rel => exact ⟨i + 1, sz + z, by go_num, by omega, by go_num, by omega, _, _, _, b, go, m + 1, unhide HGO, unhide HM4, unhide HO4, unhide HG4, unhide HN4, by omega, by omega, by omega, by omega, unhide HCUT4, hbw4⟩
            case measure => simp [intOf]; omega
          · have HCUT4 : Hid ((G ++ [nw ++ [x]]) ++ cutFrom (1 : Int) [] 0 (Q.drop (i + 1)) = cutG (1 : Int) Q) := by
              show _ = _
              rw [← unhide HCUT, cutFrom_ends (1 : Int) nw sz x _ (unhide HNOTW) (unhide HEE)]
              simp
            clear HCUT
            have hoW4 := unhide HO4
            go_wp2_with (at_builtin; refine wpList_append_own _ rfl _ _ 31 rfl w.heap.size 33 i0 (.slice none 0 0) 1 24 Try.underlying31 hi0 hz0 hz1 hz2 rfl (by decide) _ (go) _ rfl (hoW4.alloc _) ⟨w4.heap.size, 0, none⟩ 1 1 [.slice A4 (m + 1) C4] rfl rfl (cell_one_new _ _ _) (slice_one _ _ _) ?_ ?_ ?_ ?_)
            · unfold maxLen; omega
            · omega
            · simp; omega
            intro v5 w5 hown5 hgrow5 _
            have hown5 : w5.ownsRow w.heap.size 33 1 v5 (go + 1) (vs ++ [.slice A4 (m + 1) C4]) := by first | exact hown5 | simpa using hown5
            have hg5 := (unhide HG4).push (unhide HGO) (unhide HN4) (unhide HM4) (by omega) (by omega) hgrow5 (by first | exact hown5 | simpa using hown5)
            have hbl5 := below_append hbw4 (Nat.le_refl _) hoW4 hgrow5
            have hz5 := hgrow5.size
            simp at hz5
            have HG5 := hide (hg5.below (below_new w5 (Obj.cells #[] 68)))
            have HO5 := hide (hown5.alloc (Obj.cells #[] 68))
            have HGO5 : Hid (go + 1 = (G ++ [nw ++ [x]]).length) := by show _ = _; rw [List.length_append, ← unhide HGO]; rfl
            have HN5 : Hid ((w5.alloc (Obj.cells #[] 68)).ownsRow w5.heap.size 68 3 (.slice (some ⟨w5.heap.size, 0, none⟩) 0 0) 0 (itsV [])) :=
              World.ownsRow_made w5 #[] 0 (Nat.le_refl _) (Nat.zero_le _) (show (#[] : Array Value).size = 0 * 3 from rfl)
            have HBL5 := hide (hbl5.alloc hbl5.size (Obj.cells #[] 68))
            have hws5 := hbl5.size
            obtain ⟨A5, C5, rfl⟩ := own_shape hown5
            clear hown5 hgrow5 hg5 hoW4 hbl5 HG4 HO4 HN4
            go_wp2
            go_roundw
            case rel => exact ⟨i + 1, 0, by go_num, by omega, rfl, by omega, _, _, [], w5.heap.size, go + 1, 0, unhide HGO5, rfl, unhide HO5, unhide HG5, unhide HN5, by omega, by simp, by omega, by omega, unhide HCUT4, unhide HBL5⟩
            case measure => simp [intOf]; omega
        · go_upto_region 12 with fail
          have hnV := unhide HNWW
          go_wp2_with (at_builtin; refine wpList_append_own _ rfl _ _ 33 rfl b 68 i1 (.agg #[.string ⟨#[]⟩, .string ⟨#[]⟩, .int .i64 0]) 3 40 Try.underlying33 hj1 hy0 hy1 hy2 rfl (by decide) _ m _ rfl (hnV.alloc _) ⟨W.heap.size, 0, none⟩ 1 1 [.string kx, .string vx, .int .i64 px] rfl rfl (news_three _ _ _ _ _) (three_one _ _ _) ?_ ?_ ?_ ?_)
          · unfold maxLen; omega
          · omega
          · simp; omega
          intro v4 w4 hown4 hgrow4 _
          have hg4 := (unhide HGW).now hnV hgrow4
          have hbl4 := below_append (B := b) (w := W) (wr := W) (Below.refl _ _) hbW2 hnV hgrow4
          have hbw4 := hblW.trans (hbl4.mono hwb)
          have ho4 := hg4.2.1
          rw [← unhide HGO] at ho4
          have hz4 := hgrow4.size
          simp at hz4
          rw [← unhide HSNOC] at hown4
          have HN4 := hide hown4
          have HG4 := hide hg4
          have HO4 := hide ho4
          have HM4 : Hid (m + 1 = (nw ++ [x]).length) := by show _ = _; rw [List.length_append, ← unhide HM]; rfl
          obtain ⟨A4, C4, rfl⟩ := own_shape hown4
          have f0 := (hbl4.cell (p := ⟨bx, off + i * 3, none⟩) (by simp; omega)).trans d0
          clear hown4 hgrow4 hg4 ho4 hnV hbl4 d0 d1 d2 HGW HOW HNWW
          have hsb : ((sz : Nat) : Int) ≤ 4000000000000 := by omega
          have hsb0 : (0 : Int) ≤ ((sz : Nat) : Int) := by omega
          have hzb : (z : Int) ≤ 3000000 := by omega
          have hzb0 : (0 : Int) ≤ (z : Int) := by omega
          have HEE : Hid (endsAt (1 : Int) x = en) := by show _ = _; have h := unhide HEE; simpa using h
          go_wp2_with fail
          refine (unhide HEN _).mono ?_
          rintro e w4x ⟨rfl, hw4x⟩
          subst w4x
          cases en
          · have HCUT4 : Hid (G ++ cutFrom (1 : Int) (nw ++ [x]) (sz + z) (Q.drop (i + 1)) = cutG (1 : Int) Q) := by
              show _ = _
              rw [← unhide HCUT, cutFrom_on (1 : Int) nw sz x _ (unhide HNOTW) (unhide HEE), unhide HZZ]
            clear HCUT
            go_wp2
            go_roundw
            case rel => exact ⟨i + 1, sz + z, by go_num, by omega, by go_num, by omega, _, _, _, b, go, m + 1, unhide HGO, unhide HM4, unhide HO4, unhide HG4, unhide HN4, by omega, by omega, by omega, by omega, unhide HCUT4, hbw4⟩
            case measure => simp [intOf]; omega
          · have HCUT4 : Hid ((G ++ [nw ++ [x]]) ++ cutFrom (1 : Int) [] 0 (Q.drop (i + 1)) = cutG (1 : Int) Q) := by
              show _ = _
              rw [← unhide HCUT, cutFrom_ends (1 : Int) nw sz x _ (unhide HNOTW) (unhide HEE)]
              simp
            clear HCUT
            have hoW4 := unhide HO4
            go_wp2_with (at_builtin; refine wpList_append_own _ rfl _ _ 31 rfl w.heap.size 33 i0 (.slice none 0 0) 1 24 Try.underlying31 hi0 hz0 hz1 hz2 rfl (by decide) _ (go) _ rfl (hoW4.alloc _) ⟨w4.heap.size, 0, none⟩ 1 1 [.slice A4 (m + 1) C4] rfl rfl (cell_one_new _ _ _) (slice_one _ _ _) ?_ ?_ ?_ ?_)
            · unfold maxLen; omega
            · omega
            · simp; omega
            intro v5 w5 hown5 hgrow5 _
            have hown5 : w5.ownsRow w.heap.size 33 1 v5 (go + 1) (vs ++ [.slice A4 (m + 1) C4]) := by first | exact hown5 | simpa using hown5
            have hg5 := (unhide HG4).push (unhide HGO) (unhide HN4) (unhide HM4) (by omega) (by omega) hgrow5 (by first | exact hown5 | simpa using hown5)
            have hbl5 := below_append hbw4 (Nat.le_refl _) hoW4 hgrow5
            have hz5 := hgrow5.size
            simp at hz5
            have HG5 := hide (hg5.below (below_new w5 (Obj.cells #[] 68)))
            have HO5 := hide (hown5.alloc (Obj.cells #[] 68))
            have HGO5 : Hid (go + 1 = (G ++ [nw ++ [x]]).length) := by show _ = _; rw [List.length_append, ← unhide HGO]; rfl
            have HN5 : Hid ((w5.alloc (Obj.cells #[] 68)).ownsRow w5.heap.size 68 3 (.slice (some ⟨w5.heap.size, 0, none⟩) 0 0) 0 (itsV [])) :=
              World.ownsRow_made w5 #[] 0 (Nat.le_refl _) (Nat.zero_le _) (show (#[] : Array Value).size = 0 * 3 from rfl)
            have HBL5 := hide (hbl5.alloc hbl5.size (Obj.cells #[] 68))
            have hws5 := hbl5.size
            obtain ⟨A5, C5, rfl⟩ := own_shape hown5
            clear hown5 hgrow5 hg5 hoW4 hbl5 HG4 HO4 HN4
            go_wp2
            go_roundw
            case rel => exact ⟨i + 1, 0, by go_num, by omega, rfl, by omega, _, _, [], w5.heap.size, go + 1, 0, unhide HGO5, rfl, unhide HO5, unhide HG5, unhide HN5, by omega, by simp, by omega, by omega, unhide HCUT4, unhide HBL5⟩
            case measure => simp [intOf]; omega
    · have hie : i = Q.length := by have := unhide HL; omega
      have hdr : Q.drop i = [] := by rw [hie]; exact List.drop_length
      rw [hdr] at HCUT
      have hx1 : ¬ (i : Int) < (len : Int) := by omega
      clear hdr hie
      by_cases hm0 : (0 : Int) < (m : Int)
      · have hoW := unhide HO
        have HCUT4 : Hid (G ++ [nw] = cutG (1 : Int) Q) := by
          show _ = _
          have h := unhide HCUT
          rwa [cutFrom_end (1 : Int) nw sz (by intro h0; have := unhide HM; rw [h0] at this; simp at this; omega)] at h
        go_wp2_with (at_builtin; refine wpList_append_own _ rfl _ _ 31 rfl w.heap.size 33 i0 (.slice none 0 0) 1 24 Try.underlying31 hi0 hz0 hz1 hz2 rfl (by decide) _ go _ rfl (hoW.alloc _) ⟨wr.heap.size, 0, none⟩ 1 1 [.slice AN m CN] rfl rfl (cell_one_new _ _ _) (slice_one _ _ _) ?_ ?_ ?_ ?_)
        · unfold maxLen; omega
        · omega
        · have := hbl.size; simp; omega
        intro v3 w3 hown3 hgrow3 _
        have hg3 := (unhide HG).push (unhide HGO) (unhide HNW) (unhide HM) hwb hb hgrow3 hown3
        have hbl3 := below_append hbl (Nat.le_refl _) hoW hgrow3
        have HG3 := hide hg3
        obtain ⟨A3, C3, rfl⟩ := own_shape hown3
        clear hown3 hgrow3 hoW hg3
        go_wp2
        go_ret
        exact ⟨⟨_, vs ++ [.slice AN m CN], rfl, by rw [← unhide HCUT4]; exact unhide HG3⟩, hbl3⟩
      · have HCUT4 : Hid (G = cutG (1 : Int) Q) := by
          show _ = _
          have h := unhide HCUT
          have h0 : nw = [] := List.length_eq_zero_iff.1 (by have := unhide HM; omega)
          rw [h0, cutFrom_end0, List.append_nil] at h
          exact h
        go_wp2
        go_ret
        exact ⟨⟨_, rfl, vs, by rw [← unhide HCUT4]; exact (unhide HG).mono hb⟩, hbl⟩

set_option maxRecDepth 100000 in
set_option maxHeartbeats 4000000 in
theorem specCut_no (a : Option Addr) (len cap B : Nat) (Q : List It) (hlen : len ≤ 1048576) (hsm : ∀ x ∈ Q, x.key.size ≤ 1048576 ∧ x.val.size ≤ 1048576) (k : Int) (hk1 : k ≠ 1) (w : World) (hB : B ≤ w.heap.size) (hs : ItemsAt w a len B Q) :
    Calls Try.prog 12 #[.int .i64 k, .slice a len cap] w fun e w' => (∃ v vs, e = .returned v ∧ Grps w' w.heap.size w'.heap.size v vs (cutG k Q)) ∧ Below w.heap.size w w' := by
  obtain ⟨i1, hj1, hy0, hy1, hy2⟩ := info_parts infoItem
  obtain ⟨i0, hi0, hz0, hz1, hz2⟩ := info_parts infoRow
  obtain ⟨hL, hc⟩ := hs
  have HC := hide hc
  have HL := hide hL
  have HSM := hide hsm
  clear hc hL hsm
  go_enter Try.func12, Try.ntmps12
  go_wp2_with fail
  go_loopw [5, 6, 7, 8] (fun out now a7 a8 wr => ∃ i sz : Nat, a8 = .int .i64 (i : Int) ∧ i ≤ len ∧ a7 = .int .i64 (sz : Int) ∧ sz ≤ i * 3000000 ∧ CutInv w k Q wr out now i sz) (fun _ _ _ a8 _ => len - (intOf a8).toNat)
  case atStart =>
    have h1 := World.ownsRow_made (e := 33) w #[] 0 (Nat.le_refl _) (Nat.zero_le _) (show (#[] : Array Value).size = 0 * 1 from rfl)
    have h2 := World.ownsRow_made (e := 68) (w.alloc (Obj.cells #[] 33)) #[] 0 (Nat.le_refl _) (Nat.zero_le _) (show (#[] : Array Value).size = 0 * 3 from rfl)
    have hz : (w.alloc (Obj.cells #[] 33)).heap.size = w.heap.size + 1 := by simp
    rw [hz] at h2
    refine ⟨0, 0, rfl, Nat.zero_le _, rfl, Nat.zero_le _, [], [], [], w.heap.size + 1, 0, 0, rfl, rfl, h1.alloc _, ⟨rfl, h1.alloc _, fun j h => by simp at h⟩, h2, by omega, by simp, Nat.le_refl _, Nat.le_refl _, rfl, ?_⟩
    exact ((Below.refl _ _).alloc (Nat.le_refl _) _).alloc (by simp) _
  case round =>
    obtain ⟨i, sz, rfl, hi, rfl, hsz, vs, G, nw, b, go, m, hgo, hm, hown, hg, hnow, hwb, hb, hgi, hmi, hcut, hbl⟩ := hrel
    obtain ⟨AO, CO, rfl⟩ := own_shape hown
    obtain ⟨AN, CN, rfl⟩ := own_shape hnow
    have HO := hide hown
    have HG := hide hg
    have HNW := hide hnow
    have HCUT := hide hcut
    have HGO := hide hgo
    have HM := hide hm
    clear hown hg hnow hcut hgo hm
    by_cases hlt : i < len
    · have hiL : i < Q.length := by have := unhide HL; omega
      obtain ⟨bx, off, rfl, hbB, hc0, hc1, hc2⟩ := unhide HC i hiL
      have hbx : bx < w.heap.size := by omega
      rw [← hbl.cell (p := ⟨bx, off + i * 3, none⟩) (by simp; omega)] at hc0
      rw [← hbl.cell (p := ⟨bx, off + i * 3 + 1, none⟩) (by simp; omega)] at hc1
      rw [← hbl.cell (p := ⟨bx, off + i * 3 + 2, none⟩) (by simp; omega)] at hc2
      have hx0 : (0 : Int) ≤ (i : Int) := by omega
      have hx1 : (i : Int) < (len : Int) := by omega
      have hsm := unhide HSM _ (List.getElem_mem hiL)
      have HSZ := hide (fun w => specSize_any k Q[i] hsm.1 hsm.2 w)
      have HEN := hide (fun w => specEnds_any Q[i].key (by omega) w)
      have hzl := itSize_le k Q[i]
      have hz3 : itSize k Q[i] ≤ 3000000 := by omega
      have hdr : Q.drop i = Q[i] :: Q.drop (i + 1) := List.drop_eq_getElem_cons hiL
      rw [hdr] at HCUT
      have HEE : Hid (endsAt k Q[i] = (decide (k = 1) && (((sumB Q[i].key : Nat) : Int) % 4 == 0))) := rfl
      generalize (((sumB Q[i].key : Nat) : Int) % 4 == 0) = en at HEN HEE
      generalize Q[i] = x at hc0 hc1 hc2 HSZ HEN HCUT HEE hz3
      have HSNOC : Hid (∀ L : List It, itsV (L ++ [x]) = itsV L ++ [.string x.key, .string x.val, .int .i64 x.pg]) := fun L => itsV_snoc L x
      have HITV : Hid (itV x = .agg #[.string x.key, .string x.val, .int .i64 x.pg]) := rfl
      generalize hzz : itSize k x = z at HSZ hz3
      have HZZ := hide hzz
      generalize x.key = kx at hc0 HSNOC HEN HITV
      generalize x.val = vx at hc1 HSNOC HITV
      generalize x.pg = px at hc2 HSNOC HITV
      rw [unhide HITV] at HSZ
      clear hzl hsm hdr HITV hzz
      -- how great the item is
      go_wp2_with fail
      refine (unhide HSZ _).mono ?_
      rintro e W ⟨rfl, hbW⟩
      have hblW := hbl.trans (hbW.mono hbl.size)
      have HOW := hide (own_below (unhide HO) hbW)
      have HGW := hide ((unhide HG).below hbW)
      have HNWW := hide (own_below (unhide HNW) hbW)
      have hzW := hbW.size
      have d0 := (hbW.cell (p := ⟨bx, off + i * 3, none⟩) (by simp; have := hbl.size; omega)).trans hc0
      have d1 := (hbW.cell (p := ⟨bx, off + i * 3 + 1, none⟩) (by simp; have := hbl.size; omega)).trans hc1
      have d2 := (hbW.cell (p := ⟨bx, off + i * 3 + 2, none⟩) (by simp; have := hbl.size; omega)).trans hc2
      clear hbW HO HG HNW hbl hc0 hc1 hc2 HSZ
      have hbW2 : b ≤ W.heap.size := by omega
      by_cases hfull : 0 < m ∧ 54 < sz + z
      · -- the group is at its end ahead of this item
        have hf1 : (0 : Int) < (m : Int) := by omega
        have hf2 : (54 : Int) < (sz : Int) + (z : Int) := by omega
        have hoW := unhide HOW
        go_wp2_with (at_builtin; refine wpList_append_own _ rfl _ _ 31 rfl w.heap.size 33 i0 (.slice none 0 0) 1 24 Try.underlying31 hi0 hz0 hz1 hz2 rfl (by decide) _ go _ rfl (hoW.alloc _) ⟨W.heap.size, 0, none⟩ 1 1 [.slice AN m CN] rfl rfl (cell_one_new _ _ _) (slice_one _ _ _) ?_ ?_ ?_ ?_)
        · unfold maxLen; omega
        · omega
        · have := hblW.size; simp; omega
        intro v3 w3 hown3 hgrow3 _
        have hg3 := (unhide HGW).push (unhide HGO) (unhide HNWW) (unhide HM) hwb hbW2 hgrow3 hown3
        have hbl3 := below_append hblW (Nat.le_refl _) hoW hgrow3
        have hz3w := hgrow3.size
        simp at hz3w
        have HG3 := hide hg3
        have HO3 := hide hown3
        obtain ⟨A3, C3, rfl⟩ := own_shape hown3
        have HCUT3 : Hid ((G ++ [nw]) ++ cutFrom k [] 0 (x :: Q.drop (i + 1)) = cutG k Q) := by
          show _ = _
          have h := unhide HCUT
          rw [cutFrom_full k nw sz x _ (by intro h0; have := unhide HM; rw [h0] at this; simp at this; omega) (by rw [unhide HZZ]; omega)] at h
          simpa using h
        have HGO3 : Hid (go + 1 = (G ++ [nw]).length) := by show _ = _; rw [List.length_append, ← unhide HGO]; rfl
        have HNOT3 : Hid (¬ (([] : List It) ≠ [] ∧ 54 < 0 + itSize k x)) := fun h => h.1 rfl
        clear hown3 hgrow3 hoW hg3
        go_upto_region 12 with fail
        obtain ⟨V, hV⟩ : ∃ V, V = w3.alloc (Obj.cells #[] 68) := ⟨_, rfl⟩
        rw [← hV]
        have hbV : Below w3.heap.size w3 V := by rw [hV]; exact below_new _ _
        have hsV : w3.heap.size < V.heap.size := by rw [hV]; simp
        have HNV : Hid (V.ownsRow w3.heap.size 68 3 (.slice (some ⟨w3.heap.size, 0, none⟩) 0 0) 0 (itsV [])) := by
          show World.ownsRow _ _ _ _ _ _ _
          rw [hV]
          exact World.ownsRow_made w3 #[] 0 (Nat.le_refl _) (Nat.zero_le _) (show (#[] : Array Value).size = 0 * 3 from rfl)
        clear hV
        have HGV := hide ((unhide HG3).below hbV)
        have HOV := hide (own_below (unhide HO3) hbV)
        have hblV := hbl3.trans (hbV.mono hbl3.size)
        have HMV : Hid (0 = ([] : List It).length) := rfl
        have e0 := (hbV.cell (p := ⟨bx, off + i * 3, none⟩) (by simp; have := hbl3.size; omega)).trans ((hbl3.cell (p := ⟨bx, off + i * 3, none⟩) hbx).trans ((hblW.cell (p := ⟨bx, off + i * 3, none⟩) hbx).symm.trans d0))
        have e1 := (hbV.cell (p := ⟨bx, off + i * 3 + 1, none⟩) (by simp; have := hbl3.size; omega)).trans ((hbl3.cell (p := ⟨bx, off + i * 3 + 1, none⟩) hbx).trans ((hblW.cell (p := ⟨bx, off + i * 3 + 1, none⟩) hbx).symm.trans d1))
        have e2 := (hbV.cell (p := ⟨bx, off + i * 3 + 2, none⟩) (by simp; have := hbl3.size; omega)).trans ((hbl3.cell (p := ⟨bx, off + i * 3 + 2, none⟩) hbx).trans ((hblW.cell (p := ⟨bx, off + i * 3 + 2, none⟩) hbx).symm.trans d2))
        have hwb3 := hbl3.size
        have hvz := hbV.size
        clear hbV hbl3 hblW d0 d1 d2 HG3 HO3 HGW HOW HNWW HCUT
        have hnV := unhide HNV
        go_wp2_with (at_builtin; refine wpList_append_own _ rfl _ _ 33 rfl w3.heap.size 68 i1 (.agg #[.string ⟨#[]⟩, .string ⟨#[]⟩, .int .i64 0]) 3 40 Try.underlying33 hj1 hy0 hy1 hy2 rfl (by decide) _ 0 _ rfl (hnV.alloc _) ⟨V.heap.size, 0, none⟩ 1 1 [.string kx, .string vx, .int .i64 px] rfl rfl (news_three _ _ _ _ _) (three_one _ _ _) ?_ ?_ ?_ ?_)
        · unfold maxLen; omega
        · omega
        · simp; omega
        intro v4 w4 hown4 hgrow4 _
        have hg4 := (unhide HGV).now hnV hgrow4
        have hbl4 := below_append (B := w3.heap.size) (w := V) (wr := V) (Below.refl _ _) (by omega) hnV hgrow4
        have hbw4 := hblV.trans (hbl4.mono (by omega))
        have ho4 := hg4.2.1
        rw [← unhide HGO3] at ho4
        have hz4 := hgrow4.size
        simp at hz4
        rw [← unhide HSNOC] at hown4
        have HN4 := hide hown4
        have HG4 := hide hg4
        have HO4 := hide ho4
        have HM4 : Hid (0 + 1 = ([] ++ [x]).length) := by show _ = _; rw [List.length_append, ← unhide HMV]; rfl
        obtain ⟨A4, C4, rfl⟩ := own_shape hown4
        have f0 := (hbl4.cell (p := ⟨bx, off + i * 3, none⟩) (by simp; omega)).trans e0
        clear hown4 hgrow4 hg4 ho4 hnV hbl4 e0 e1 e2 HGV HOV HNV
        have hsb : ((0 : Nat) : Int) ≤ 4000000000000 := by omega
        have hsb0 : (0 : Int) ≤ ((0 : Nat) : Int) := by omega
        have hzb : (z : Int) ≤ 3000000 := by omega
        have hzb0 : (0 : Int) ≤ (z : Int) := by omega
        have hk1b : decide (k = 1) = false := decide_eq_false hk1
        rw [hk1b, Bool.false_and] at HEE
        have HCUT4 : Hid ((G ++ [nw]) ++ cutFrom k ([] ++ [x]) ((0 + z)) (Q.drop (i + 1)) = cutG k Q) := by
          show _ = _
          rw [← unhide HCUT3, cutFrom_on k [] 0 x _ (unhide HNOT3) (unhide HEE), unhide HZZ]
        clear HCUT3
        go_wp2
        go_roundw
        case rel => exact ⟨i + 1, (0 + z), by go_num, by omega, by go_num, by omega, _, _, _, w3.heap.size, go + 1, 0 + 1, unhide HGO3, unhide HM4, unhide HO4, unhide HG4, unhide HN4, by omega, by omega, by omega, by omega, unhide HCUT4, hbw4⟩
        case measure => simp [intOf]; omega
      · have HNOTW : Hid (¬ (nw ≠ [] ∧ 54 < sz + itSize k x)) := fun h => hfull ⟨by have := unhide HM; have := List.length_pos_iff.2 h.1; omega, by rw [← unhide HZZ]; exact h.2⟩
        have hblW' := hblW
        by_cases hm0 : (0 : Int) < (m : Int)
        · have hf2 : ¬ (54 : Int) < (sz : Int) + (z : Int) := by omega
          go_upto_region 12 with fail
          have hnV := unhide HNWW
          go_wp2_with (at_builtin; refine wpList_append_own _ rfl _ _ 33 rfl b 68 i1 (.agg #[.string ⟨#[]⟩, .string ⟨#[]⟩, .int .i64 0]) 3 40 Try.underlying33 hj1 hy0 hy1 hy2 rfl (by decide) _ m _ rfl (hnV.alloc _) ⟨W.heap.size, 0, none⟩ 1 1 [.string kx, .string vx, .int .i64 px] rfl rfl (news_three _ _ _ _ _) (three_one _ _ _) ?_ ?_ ?_ ?_)
          · unfold maxLen; omega
          · omega
          · simp; omega
          intro v4 w4 hown4 hgrow4 _
          have hg4 := (unhide HGW).now hnV hgrow4
          have hbl4 := below_append (B := b) (w := W) (wr := W) (Below.refl _ _) hbW2 hnV hgrow4
          have hbw4 := hblW.trans (hbl4.mono hwb)
          have ho4 := hg4.2.1
          rw [← unhide HGO] at ho4
          have hz4 := hgrow4.size
          simp at hz4
          rw [← unhide HSNOC] at hown4
          have HN4 := hide hown4
          have HG4 := hide hg4
          have HO4 := hide ho4
          have HM4 : Hid (m + 1 = (nw ++ [x]).length) := by show _ = _; rw [List.length_append, ← unhide HM]; rfl
          obtain ⟨A4, C4, rfl⟩ := own_shape hown4
          have f0 := (hbl4.cell (p := ⟨bx, off + i * 3, none⟩) (by simp; omega)).trans d0
          clear hown4 hgrow4 hg4 ho4 hnV hbl4 d0 d1 d2 HGW HOW HNWW
          have hsb : ((sz : Nat) : Int) ≤ 4000000000000 := by omega
          have hsb0 : (0 : Int) ≤ ((sz : Nat) : Int) := by omega
          have hzb : (z : Int) ≤ 3000000 := by omega
          have hzb0 : (0 : Int) ≤ (z : Int) := by omega
          have hk1b : decide (k = 1) = false := decide_eq_false hk1
          rw [hk1b, Bool.false_and] at HEE
          have HCUT4 : Hid (G ++ cutFrom k (nw ++ [x]) (sz + z) (Q.drop (i + 1)) = cutG k Q) := by
            show _ = _
            rw [← unhide HCUT, cutFrom_on k nw sz x _ (unhide HNOTW) (unhide HEE), unhide HZZ]
          clear HCUT
          go_wp2
          go_roundw
          case rel => exact ⟨i + 1, sz + z, by go_num, by omega, by go_num, by omega, _, _, _, b, go, m + 1, unhide HGO, unhide HM4, unhide HO4, unhide HG4, unhide HN4, by omega, by omega, by omega, by omega, unhide HCUT4, hbw4⟩
          case measure => simp [intOf]; omega
        · go_upto_region 12 with fail
          have hnV := unhide HNWW
          go_wp2_with (at_builtin; refine wpList_append_own _ rfl _ _ 33 rfl b 68 i1 (.agg #[.string ⟨#[]⟩, .string ⟨#[]⟩, .int .i64 0]) 3 40 Try.underlying33 hj1 hy0 hy1 hy2 rfl (by decide) _ m _ rfl (hnV.alloc _) ⟨W.heap.size, 0, none⟩ 1 1 [.string kx, .string vx, .int .i64 px] rfl rfl (news_three _ _ _ _ _) (three_one _ _ _) ?_ ?_ ?_ ?_)
          · unfold maxLen; omega
          · omega
          · simp; omega
          intro v4 w4 hown4 hgrow4 _
          have hg4 := (unhide HGW).now hnV hgrow4
          have hbl4 := below_append (B := b) (w := W) (wr := W) (Below.refl _ _) hbW2 hnV hgrow4
          have hbw4 := hblW.trans (hbl4.mono hwb)
          have ho4 := hg4.2.1
          rw [← unhide HGO] at ho4
          have hz4 := hgrow4.size
          simp at hz4
          rw [← unhide HSNOC] at hown4
          have HN4 := hide hown4
          have HG4 := hide hg4
          have HO4 := hide ho4
          have HM4 : Hid (m + 1 = (nw ++ [x]).length) := by show _ = _; rw [List.length_append, ← unhide HM]; rfl
          obtain ⟨A4, C4, rfl⟩ := own_shape hown4
          have f0 := (hbl4.cell (p := ⟨bx, off + i * 3, none⟩) (by simp; omega)).trans d0
          clear hown4 hgrow4 hg4 ho4 hnV hbl4 d0 d1 d2 HGW HOW HNWW
          have hsb : ((sz : Nat) : Int) ≤ 4000000000000 := by omega
          have hsb0 : (0 : Int) ≤ ((sz : Nat) : Int) := by omega
          have hzb : (z : Int) ≤ 3000000 := by omega
          have hzb0 : (0 : Int) ≤ (z : Int) := by omega
          have hk1b : decide (k = 1) = false := decide_eq_false hk1
          rw [hk1b, Bool.false_and] at HEE
          have HCUT4 : Hid (G ++ cutFrom k (nw ++ [x]) (sz + z) (Q.drop (i + 1)) = cutG k Q) := by
            show _ = _
            rw [← unhide HCUT, cutFrom_on k nw sz x _ (unhide HNOTW) (unhide HEE), unhide HZZ]
          clear HCUT
          go_wp2
          go_roundw
          case rel => exact ⟨i + 1, sz + z, by go_num, by omega, by go_num, by omega, _, _, _, b, go, m + 1, unhide HGO, unhide HM4, unhide HO4, unhide HG4, unhide HN4, by omega, by omega, by omega, by omega, unhide HCUT4, hbw4⟩
          case measure => simp [intOf]; omega
    · have hie : i = Q.length := by have := unhide HL; omega
      have hdr : Q.drop i = [] := by rw [hie]; exact List.drop_length
      rw [hdr] at HCUT
      have hx1 : ¬ (i : Int) < (len : Int) := by omega
      clear hdr hie
      by_cases hm0 : (0 : Int) < (m : Int)
      · have hoW := unhide HO
        have HCUT4 : Hid (G ++ [nw] = cutG k Q) := by
          show _ = _
          have h := unhide HCUT
          rwa [cutFrom_end k nw sz (by intro h0; have := unhide HM; rw [h0] at this; simp at this; omega)] at h
        go_wp2_with (at_builtin; refine wpList_append_own _ rfl _ _ 31 rfl w.heap.size 33 i0 (.slice none 0 0) 1 24 Try.underlying31 hi0 hz0 hz1 hz2 rfl (by decide) _ go _ rfl (hoW.alloc _) ⟨wr.heap.size, 0, none⟩ 1 1 [.slice AN m CN] rfl rfl (cell_one_new _ _ _) (slice_one _ _ _) ?_ ?_ ?_ ?_)
        · unfold maxLen; omega
        · omega
        · have := hbl.size; simp; omega
        intro v3 w3 hown3 hgrow3 _
        have hg3 := (unhide HG).push (unhide HGO) (unhide HNW) (unhide HM) hwb hb hgrow3 hown3
        have hbl3 := below_append hbl (Nat.le_refl _) hoW hgrow3
        have HG3 := hide hg3
        obtain ⟨A3, C3, rfl⟩ := own_shape hown3
        clear hown3 hgrow3 hoW hg3
        go_wp2
        go_ret
        exact ⟨⟨_, vs ++ [.slice AN m CN], rfl, by rw [← unhide HCUT4]; exact unhide HG3⟩, hbl3⟩
      · have HCUT4 : Hid (G = cutG k Q) := by
          show _ = _
          have h := unhide HCUT
          have h0 : nw = [] := List.length_eq_zero_iff.1 (by have := unhide HM; omega)
          rw [h0, cutFrom_end0, List.append_nil] at h
          exact h
        go_wp2
        go_ret
        exact ⟨⟨_, rfl, vs, by rw [← unhide HCUT4]; exact (unhide HG).mono hb⟩, hbl⟩

theorem specCut_any (k : Int) (a : Option Addr) (len cap B : Nat) (Q : List It) (hlen : len ≤ 1048576) (hsm : ∀ x ∈ Q, x.key.size ≤ 1048576 ∧ x.val.size ≤ 1048576) (w : World) (hB : B ≤ w.heap.size) (hs : ItemsAt w a len B Q) :
    Calls Try.prog 12 #[.int .i64 k, .slice a len cap] w fun e w' => (∃ v vs, e = .returned v ∧ Grps w' w.heap.size w'.heap.size v vs (cutG k Q)) ∧ Below w.heap.size w w' := by
  by_cases h : k = 1
  · subst h; exact specCut_one a len cap B Q hlen hsm w hB hs
  · exact specCut_no a len cap B Q hlen hsm k h w hB hs
end Tr
end Go.Proofs.Ytdmcnojhjmadjaa
