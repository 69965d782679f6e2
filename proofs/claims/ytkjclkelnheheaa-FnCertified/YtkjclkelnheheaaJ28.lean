/-
 SvP1, SvX1.
-/
import Derived.Test.YtkjclkelnheheaaJ22
import Derived.Test.YtkjclkelnheheaaJ2
import Derived.Deep.RegionWith
import Derived.Deep.DeepCutAuto
import Derived.Deep.CutBlock
import Derived.Deep.LoopGhost
import Derived.Test.YtkjclkelnheheaaJ21
namespace Go.Proofs.Ytkjclkelnheheaa
namespace Sv
open Go.RowKit Gr
section
variable {w : World} {b lo : Nat} {aQ : Option Addr} {cQ s : Nat} {Q : List EdgeI} {y : List Int} {N : List Nd} {M : List Lk} {k : Int} {d : Bool} {vv : Vs}
theorem info_group : (Try.prog.info? 54).map (fun i => (i.zero, i.size, i.bytes)) = some (some (.agg #[.slice none 0 0, .int .i64 0]), 2, 32) := by kernel_rfl
set_option maxRecDepth 100000 in
set_option maxHeartbeats 4000000 in
theorem groups_any (h : RunAt w b lo aQ cQ s Q y N M k d vv) (hlo : lo ≤ w.heap.size) (I : Inv s N M) (hn : N.length ≤ 500000) :
    Calls Try.prog 36 #[.pointer (some ⟨b, 0, none⟩)] w fun u w' => (∃ g c, u = .returned (.slice (some ⟨g, 0, none⟩) (groupsF s N).length c) ∧ ∃ ms, GOwn w' w.heap.size (.slice (some ⟨g, 0, none⟩) (groupsF s N).length c) ms (groupsF s N)) ∧ Below w.heap.size w w' := by
  obtain ⟨R, hR⟩ : ∃ R, R = groupsF s N := ⟨_, rfl⟩
  rw [← hR]
  unfold groupsF at hR
  have HR := hide hR
  have hge := I.ge
  obtain ⟨an, cn, en⟩ : ∃ a c, vv.n = .slice a N.length c := by
    rcases h.ns.2 with ⟨e, h0⟩ | ⟨g, cap, cur, e, _⟩
    · exact ⟨none, 0, by rw [e, h0]⟩
    · exact ⟨_, _, e⟩
  have q0 := h.box.cell 0 _ rfl
  have q3 := h.box.cell 3 _ rfl
  rw [en] at q3
  have hbl := h.box.lt
  have HB := hide (fun W (hb : Below w.heap.size w W) => h.below hb hlo)
  have HST := hide (fun i G hi => grF_step s N i G hi)
  have HU := hide I.ups
  clear h hR en I
  obtain ⟨n, hN⟩ : ∃ n, n = N.length := ⟨_, rfl⟩
  rw [← hN] at q3 hn hge HST HR
  have HN := hide hN
  clear hN
  go_enter Try.func36, Try.ntmps36
  go_upto_region 2 with fail
  obtain ⟨U, hU⟩ : ∃ W, W = w.alloc (Obj.cells #[] 54) := ⟨_, rfl⟩
  rw [← hU]
  have hbU : Below w.heap.size w U := by rw [hU]; exact below_new w _
  have HG0 : Hid (GOwn U w.heap.size (.slice (some ⟨w.heap.size, 0, none⟩) ([] : List GrpI).length 0) [] []) := by
    refine ⟨rfl, ⟨rfl, .inr ⟨w.heap.size, 0, #[], rfl, Nat.le_refl _, by rw [hU]; exact heap_alloc_new w _, Nat.le_refl _, by unfold maxLen; omega, rfl, rfl⟩⟩, fun j h1 => by simp at h1⟩
  clear hU
  have q0' : U.cell? ⟨b, 0, none⟩ = some (.int .i64 (s : Int)) := (hbU.cell (p := ⟨b, 0, none⟩) hbl).trans q0
  go_wp2_with fail
  go_loopw [3, 4] (fun a3 a4 wr => ∃ (i : Nat) (G : List GrpI) (ms : List Value) (g c : Nat), a3 = .slice (some ⟨g, 0, none⟩) G.length c ∧ a4 = .int .i64 (i : Int) ∧ s ≤ i ∧ i ≤ n ∧ G.length ≤ i ∧ Hid (∀ q ∈ G, q.M.length ≤ s) ∧ Hid (GOwn wr w.heap.size (.slice (some ⟨g, 0, none⟩) G.length c) ms G) ∧ Hid (R = grF s N (List.range' i (n - i)) G) ∧ Below w.heap.size w wr) (fun _ a4 _ => n - (intOf a4).toNat)
  case atStart => exact ⟨s, [], [], w.heap.size, 0, rfl, rfl, Nat.le_refl _, hge, Nat.zero_le _, (fun q hq => by simp at hq), HG0, HR, hbU⟩
  case round =>
    clear HG0 HR hbU q0'
    obtain ⟨i, G, ms, g, c, rfl, rfl, hsi, hi, hGl, HGM, HG, HR, hb⟩ := hrel
    have p3 : wr.cell? ⟨b, 3, none⟩ = some (.slice an n cn) := (hb.cell (p := ⟨b, 3, none⟩) hbl).trans q3
    by_cases hlt : i < n
    · have hi0 : (0 : Int) ≤ (i : Int) := by omega
      have hi1 : (i : Int) < (n : Int) := by omega
      obtain ⟨gn, cn', en, _, hgn, p3', hc⟩ := (unhide HB wr hb).node (by have := unhide HN; omega)
      obtain ⟨_, _, _, c3, _, c5⟩ := hc i (by have := unhide HN; omega)
      have ean : an = some ⟨gn, 0, none⟩ := by
        rw [p3] at p3'
        simp at p3'
        exact p3'.1
      subst ean
      clear hc p3' en
      have HR2 := hide ((unhide HR).trans (unhide HST i G hlt))
      clear HR
      obtain ⟨z, hz⟩ : ∃ z, z = (nd N i).z := ⟨_, rfl⟩
      rw [← hz] at c3 HR2
      clear hz
      generalize (nd N i).gone = go at c5 HR2
      have SKIP : Hid ((go || decide (z ≤ 0)) = true → R = grF s N (List.range' (i + 1) (n - (i + 1))) G) := fun e => by rw [unhide HR2, if_pos e]
      have TAKE : Hid ((go || decide (z ≤ 0)) = false → R = grF s N (List.range' (i + 1) (n - (i + 1))) (insG ⟨memTo N i s, z⟩ G)) := fun e => by rw [unhide HR2, if_neg (by rw [e]; decide)]
      clear HR2
      cases go with
      | true =>
        have HR3 := hide (unhide SKIP rfl)
        clear SKIP TAKE
        go_wp2_with fail
        exact ⟨⟨i + 1, G, ms, g, c, rfl, by go_num, by omega, by omega, by omega, HGM, HG, HR3, hb⟩, by simp [intOf]; omega⟩
      | false =>
        by_cases hz0 : z ≤ 0
        · have HR3 := hide (unhide SKIP (by simp [hz0]))
          clear SKIP TAKE
          go_wp2_with fail
          exact ⟨⟨i + 1, G, ms, g, c, rfl, by go_num, by omega, by omega, by omega, HGM, HG, HR3, hb⟩, by simp [intOf]; omega⟩
        · have HR3 := hide (unhide TAKE (by simp [hz0]))
          clear SKIP TAKE
          go_upto_region 7 with fail
          obtain ⟨X, hX⟩ : ∃ W, W = wr.alloc (Obj.cells #[.slice none 0 0, .int .i64 z] 54) := ⟨_, rfl⟩
          rw [← hX]
          have hbX : Below wr.heap.size wr X := by rw [hX]; exact below_new wr _
          have HMX : Hid (Blk X wr.heap.size #[.slice none 0 0, .int .i64 z] 54) := by rw [hX]; exact Blk.new0
          have hzX : wr.heap.size + 1 ≤ X.heap.size := by rw [hX]; simp
          clear hX
          obtain ⟨V, hV⟩ : ∃ W, W = wr := ⟨_, rfl⟩
          subst hV
          have HVV : Hid (InOwn X (V.heap.size + 1) (.slice none 0 0) (memTo N i 0)) := ⟨rfl, .inl ⟨rfl, rfl⟩⟩
          go_wp2_with fail
          go_loopw [6] (fun a6 wr => ∃ (v : Nat) (vm : Value), a6 = .int .i64 (v : Int) ∧ v ≤ s ∧ Hid (Blk wr V.heap.size #[vm, .int .i64 z] 54) ∧ Hid (InOwn wr (V.heap.size + 1) vm (memTo N i v)) ∧ Below V.heap.size V wr ∧ V.heap.size + 1 ≤ wr.heap.size) (fun a6 _ => s - (intOf a6).toNat)
          case atStart => exact ⟨0, _, rfl, Nat.zero_le _, HMX, HVV, hbX, hzX⟩
          case round =>
            clear HMX HVV hbX hzX p3 c3 c5
            obtain ⟨v, vm, rfl, hv, HM, HV, hbq, hzq⟩ := hrel
            have hbw : Below w.heap.size w wr := hb.trans (hbq.mono hb.size)
            have p0 : wr.cell? ⟨b, 0, none⟩ = some (.int .i64 (s : Int)) := (hbw.cell (p := ⟨b, 0, none⟩) hbl).trans q0
            by_cases hvs : v < s
            · have hv0 : (0 : Int) ≤ (v : Int) := by omega
              have hv1 : (v : Int) < (s : Int) := by omega
              have WN := hide (win_any (unhide HB wr hbw) (unhide HU) (by have := unhide HN; omega) v i (by have := unhide HN; omega))
              have HY := hide (memTo_yes N i v)
              have HNO := hide (memTo_no N i v)
              have hml := memTo_len N i v
              generalize win N v i = wi at WN HY HNO
              go_wp2_with fail
              refine (unhide WN).mono ?_
              rintro u w3 ⟨rfl, hw3⟩
              have hw3' := hw3.symm
              subst hw3'
              clear WN
              cases wi with
              | false =>
                have HV2 : Hid (InOwn wr (V.heap.size + 1) vm (memTo N i (v + 1))) := by show InOwn _ _ _ _; rw [unhide HNO rfl]; exact unhide HV
                clear HV HY HNO hml
                go_wp2_with fail
                exact ⟨⟨v + 1, vm, by go_num, by omega, HM, HV2, hbq, hzq⟩, by simp [intOf]; omega⟩
              | true =>
                have HE1 := hide (unhide HY rfl)
                generalize memTo N i v = L at HV HE1 hml
                obtain ⟨am, cm, em⟩ : ∃ a c, vm = .slice a L.length c := by
                  rcases (unhide HV).2 with ⟨e, h0⟩ | ⟨g, cap, cur, e, _⟩
                  · exact ⟨none, 0, by rw [e, h0]⟩
                  · exact ⟨_, _, e⟩
                subst em
                have m0 : wr.cell? ⟨V.heap.size, 0, none⟩ = some (.slice am L.length cm) := (unhide HM).cell 0 _ rfl
                have hown := unhide HV
                unfold InOwn at hown
                obtain ⟨i0, hi0', hy0, hy1, hy2⟩ := info_parts info_int
                clear HY HNO HV
                go_wp2_with (at_builtin; refine wpList_append_own _ rfl _ _ 27 rfl (V.heap.size + 1) 3 i0 (.int .i64 0) 1 8 Try.underlying27 hi0' hy0 hy1 hy2 rfl (by decide) _ L.length _ rfl (hown.alloc _) ⟨wr.heap.size, 0, none⟩ 1 1 [.int .i64 (v : Int)] rfl rfl (cell_one_new _ _ _) (one_int _) ?c3 ?c4 ?c5 ?_)
                case c3 => unfold maxLen; omega
                case c4 => omega
                case c5 => simp; omega
                intro v7 w7 hown7 hgrow7 _
                obtain ⟨gP, cP, eP⟩ : ∃ g c, v7 = .slice (some ⟨g, 0, none⟩) (L.length + 1) c := by
                  rcases hown7.2 with ⟨_, h0⟩ | ⟨g, cap, cur, e, _⟩
                  · omega
                  · exact ⟨g, cap, e⟩
                subst eP
                have hlt7 := fun g (hg : (Value.slice am L.length cm).ownBlock = some g) => World.ownsRow.lt hown g hg
                have k7 := Kept.of_grown hgrow7
                have m7 : Blk w7 V.heap.size #[.slice am L.length cm, .int .i64 z] 54 := ((unhide HM).below (below_new wr _)).kept k7 (fun hg => by have := hlt7 _ hg; omega)
                have z0 := m7.cell 0 _ rfl
                have fz0 := m7.froz 0
                have m8 := m7.set 0 (.slice (some ⟨gP, 0, none⟩) (L.length + 1) cP)
                have b7 : Below V.heap.size V w7 := (hbq.trans ((below_new wr _).mono hbq.size)).trans (k7.below (by simp; omega) (fun g hg => by have := hlt7 g hg; omega))
                have k8 : Kept (fun i => i = V.heap.size) w7 (w7.setCell ⟨V.heap.size, 0, none⟩ (.slice (some ⟨gP, 0, none⟩) (L.length + 1) cP)) := Kept.set _ _ _ _ rfl
                have o8 : InOwn (w7.setCell ⟨V.heap.size, 0, none⟩ (.slice (some ⟨gP, 0, none⟩) (L.length + 1) cP)) (V.heap.size + 1) (.slice (some ⟨gP, 0, none⟩) (L.length + 1) cP) (memTo N i (v + 1)) := by
                  rw [unhide HE1]
                  have : InOwn w7 (V.heap.size + 1) (.slice (some ⟨gP, 0, none⟩) (L.length + 1) cP) (L ++ [(v : Int)]) := by
                    unfold InOwn
                    simp only [List.length_append, List.length_cons, List.length_nil, intsV, List.map_append, List.map_cons, List.map_nil]
                    exact hown7
                  exact this.kept k8 (fun g hg e => by have := this.blk g hg; omega)
                have b8 : Below V.heap.size V (w7.setCell ⟨V.heap.size, 0, none⟩ (.slice (some ⟨gP, 0, none⟩) (L.length + 1) cP)) := b7.trans (k8.below b7.size (fun g hg => by omega))
                have z8 : V.heap.size + 1 ≤ (w7.setCell ⟨V.heap.size, 0, none⟩ (.slice (some ⟨gP, 0, none⟩) (L.length + 1) cP)).heap.size := by
                  have := m8.lt; omega
                have HM8 : Hid (Blk (w7.setCell ⟨V.heap.size, 0, none⟩ (.slice (some ⟨gP, 0, none⟩) (L.length + 1) cP)) V.heap.size #[.slice (some ⟨gP, 0, none⟩) (L.length + 1) cP, .int .i64 z] 54) := m8
                have HO8 := hide o8
                clear hown hown7 hgrow7 k7 m7 m8 k8 o8 b7 m0
                go_wp2_with fail
                exact ⟨⟨v + 1, _, by go_num, by omega, HM8, HO8, b8, z8⟩, by simp [intOf]; omega⟩
            · have hvs' : v = s := by omega
              have hv1 : ¬ (v : Int) < (s : Int) := by omega
              have HV2 : Hid (InOwn wr (V.heap.size + 1) vm (memTo N i s)) := by show InOwn _ _ _ _; rw [← hvs']; exact unhide HV
              have hml0 := memTo_len N i s
              clear HV
              generalize memTo N i s = M1 at HV2 HR3 hml0
              have HG2 := hide ((unhide HG).below hbq)
              have HM2 := HM
              clear HM HG
              obtain ⟨am, cm, em, hIm⟩ := (unhide HV2).at
              subst em
              have HV3 := HV2
              clear HV2
              obtain ⟨W2, hW2⟩ : ∃ W, W = wr := ⟨_, rfl⟩
              subst hW2
              have HGC : Hid (∀ W, Below W2.heap.size W2 W → ∀ j (hj : j < G.length), ∃ aj cj, W.cell? ⟨g, j * 2, none⟩ = some (.slice aj G[j].M.length cj) ∧ IntsAt W aj G[j].M.length W.heap.size G[j].M) := fun W hW j hj => by
                have gW := (unhide HG2).below hW
                have hjm : j < ms.length := by rw [gW.1]; exact hj
                obtain ⟨aj, cj, ej, hIj⟩ := (gW.2.2 j hjm hj).at
                have := gW.2.1.cells (g := g) rfl (j * 2) _ (gC_at ms (zsOf G) j hjm (by rw [zsOf_length]; exact hj)).1
                rw [addr_add, ej] at this
                exact ⟨aj, cj, this, hIj⟩
              have hgl := (World.ownsRow.lt (unhide HG2).2.1 g rfl).2
              have hvl : V.heap.size < W2.heap.size := (unhide HM2).lt
              have HIM := hide hIm
              clear hIm
              have hp0 := p0
              go_wp2_with fail
              go_loopw [7] (fun a7 wr => ∃ kk : Nat, a7 = .int .i64 (kk : Int) ∧ kk ≤ G.length ∧ Hid (posF M1 G G.length = posF M1 G kk) ∧ Below W2.heap.size W2 wr) (fun a7 _ => (intOf a7).toNat)
              case atStart => exact ⟨G.length, rfl, Nat.le_refl _, rfl, Below.refl _ _⟩
              case round =>
                obtain ⟨kk, rfl, hkk, HP, hb3⟩ := hrel
                have m3 := (unhide HM2).below hb3
                have y0 : wr.cell? ⟨V.heap.size, 0, none⟩ = some (.slice am M1.length cm) := m3.cell 0 _ rfl
                have hz3 := hb3.size
                by_cases hk0 : 0 < kk
                · have hk1 : (0 : Int) < (kk : Int) := by omega
                  obtain ⟨k', hk'⟩ : ∃ k', kk = k' + 1 := ⟨kk - 1, by omega⟩
                  have HK' := hide hk'
                  have hwk : IntKind.i64.wrap ((kk : Int) - 1) = (k' : Int) := by rw [show (kk : Int) - 1 = (k' : Int) by omega]; exact IntWalk.i64_in _ ⟨by omega, by omega⟩
                  have hx0 : (0 : Int) ≤ (k' : Int) := by omega
                  have hx1 : (k' : Int) < (G.length : Int) := by omega
                  have hkG : k' < G.length := by omega
                  obtain ⟨aj, cj, cc, hIj⟩ := unhide HGC wr hb3 k' hkG
                  have hqm := unhide HGM _ (List.getElem_mem hkG)
                  have HP2 : Hid (posF M1 G G.length = if aheadF M1 G[k'].M = true then posF M1 G k' else kk) := by
                    show _ = _
                    rw [unhide HP, hk', posF, getD_at _ _ _ hkG]
                  have AJ : Hid (∀ d : Grown wr.heap.size wr, Calls Try.prog 59 #[.slice am M1.length cm, .slice aj G[k'].M.length cj] d.w fun u w' => u = .returned (.bool (aheadF M1 G[k'].M)) ∧ Below d.w.heap.size d.w w') := fun d => by
                    have hd := d.below
                    exact ahead_any d.w M1 G[k'].M am aj cm cj _ _ W2.heap.size wr.heap.size (by omega) (by omega) (Nat.le_trans hz3 hd.size) hd.size (IntsAt.below (IntsAt.below (unhide HIM) hb3 (Nat.le_refl _)) hd hz3) (IntsAt.below hIj hd (Nat.le_refl _))
                  generalize aheadF M1 G[k'].M = ab at AJ HP2
                  generalize G[k'].M.length = lj at AJ cc
                  have k0 : ∀ d : Grown wr.heap.size wr, d.w.cell? ⟨V.heap.size, 0, none⟩ = some (.slice am M1.length cm) := fun d => d.cell (by omega) y0
                  have k1 : ∀ d : Grown wr.heap.size wr, d.w.cell? ⟨g, k' * 2, none⟩ = some (.slice aj lj cj) := fun d => d.cell (by omega) cc
                  have hk9 : k' < kk := by omega
                  clear HP hIj hqm hk'
                  go_wp2_with fail
                  refine wp_region_grown wr.heap.size (by kernel_rfl) (by kernel_rfl) ?_
                  repeat (go_big_quiet_step (first | (go_at_call 59; exact Calls.grown (Nat.le_refl _) (unhide AJ _))))
                  refine wpQuiet_nil ?_
                  rintro w5 ⟨d5, rfl⟩
                  obtain ⟨W5, hb5⟩ := d5
                  dsimp only
                  clear k0 k1 AJ
                  have hbE : Below W2.heap.size W2 W5 := hb3.trans (hb5.mono hz3)
                  cases ab with
                  | true =>
                    have HP3 : Hid (posF M1 G G.length = posF M1 G k') := unhide HP2
                    clear HP2
                    go_wp2_with fail
                    exact ⟨⟨k', by first | rfl | go_num, by omega, HP3, hbE⟩, by simp [intOf]; omega⟩
                  | false =>
                    have hpos : posF M1 G G.length = kk := unhide HP2
                    clear hwk hx0 hx1 hk1 cc HP2 y0
                    have g5 := (unhide HG2).below hbE
                    have v5 := (unhide HV3).below hbE
                    have m5 := (unhide HM2).below hbE
                    have hg5 := World.ownsRow.lt g5.2.1 g rfl
                    have hV5 : V.heap.size < W5.heap.size := m5.lt
                    have hzl : (zsOf G).length = G.length := zsOf_length G
                    have hml : ms.length = (zsOf G).length := by rw [hzl]; exact g5.1
                    have lA : (gC (ms.take kk) ((zsOf G).take kk)).length = kk * 2 := by rw [gC_length _ _ (by simp [hml]), List.length_take]; congr 1; omega
                    have lD : (gC (ms.drop kk) ((zsOf G).drop kk)).length = (G.length - kk) * 2 := by rw [gC_length _ _ (by simp [hml]), List.length_drop, hzl]
                    have one : ∀ u ∈ ms, u.oneCell' = true := fun u hu => by
                      obtain ⟨j, hj, rfl⟩ := List.mem_iff_getElem.1 hu
                      exact own_one (g5.2.2 j hj (by omega))
                    have HOA := hide (gC_one (ms.take kk) ((zsOf G).take kk) (fun u hu => one u (List.mem_of_mem_take hu)))
                    have HOD := hide (gC_one (ms.drop kk) ((zsOf G).drop kk) (fun u hu => one u (List.mem_of_mem_drop hu)))
                    have HCL : Hid (∀ W, Below W5.heap.size W5 W → ∀ j u, (gC ms (zsOf G))[j]? = some u → W.cell? ⟨g, j, none⟩ = some u) := fun W hW j u hu => by
                      have := (g5.below hW).2.1.cells (g := g) rfl j u hu
                      rwa [addr_add] at this
                    have HSP := hide (gC_split ms (zsOf G) kk hml)
                    have HNA : Hid (∀ W, Below W5.heap.size W5 W → ∀ j u, (gC (ms.take kk) ((zsOf G).take kk))[j]? = some u → W.cell? ((⟨g, 0, none⟩ : Addr).add j) = some u) := fun W hW j u hu => by
                      rw [addr_add]
                      have hj := (List.getElem?_eq_some_iff.1 hu).1
                      exact unhide HCL W hW j u (by rw [unhide HSP, List.getElem?_append_left hj]; exact hu)
                    have HND : Hid (∀ W, Below W5.heap.size W5 W → ∀ j u, (gC (ms.drop kk) ((zsOf G).drop kk))[j]? = some u → W.cell? ((⟨g, kk * 2, none⟩ : Addr).add j) = some u) := fun W hW j u hu => by
                      rw [show (⟨g, kk * 2, none⟩ : Addr).add j = ⟨g, kk * 2 + j, none⟩ by simp [Addr.add]]
                      exact unhide HCL W hW (kk * 2 + j) u (by rw [unhide HSP, List.getElem?_append_right (by omega), lA, show kk * 2 + j - kk * 2 = j by omega]; exact hu)
                    have hcap : G.length ≤ c := by
                      rcases g5.2.1.2 with ⟨e, _⟩ | ⟨g', cap, cur, e, _, _, hc, _⟩
                      · simp at e
                      · simp at e; omega
                    have HG5 := hide g5
                    have HV5 := hide v5
                    have HGI : Hid (∀ W v', Below W5.heap.size W5 W → W.ownsRow W5.heap.size 54 2 v' (kk + 1 + (G.length - kk)) ((gC (ms.take kk) ((zsOf G).take kk) ++ [.slice am M1.length cm, .int .i64 z]) ++ gC (ms.drop kk) ((zsOf G).drop kk)) → GOwn W w.heap.size v' (ms.take kk ++ [.slice am M1.length cm] ++ ms.drop kk) (insG ⟨M1, z⟩ G)) := fun W v' hW ho => by
                      have gW := (unhide HG5).below hW
                      unfold insG
                      rw [hpos]
                      have hw5 : w.heap.size ≤ W5.heap.size := Nat.le_trans hbw.size hbE.size
                      exact gown_ins (x := ⟨M1, z⟩) gW.1 hkk (own_lower hw5 ho) gW.2.2 (InOwn.lower ((unhide HV5).below hW) (by have := hb.size; omega))
                    clear HCL HSP g5 v5 one hml
                    generalize gC (ms.take kk) ((zsOf G).take kk) = A at lA HOA HNA HGI
                    generalize gC (ms.drop kk) ((zsOf G).drop kk) = D at lD HOD HND HGI
                    obtain ⟨i1, hi1, hz0', hz1', hz2'⟩ := info_parts info_group
                    have hk2 : (kk : Int) ≤ (c : Int) := by omega
                    have hk3 : (kk : Int) ≤ (G.length : Int) := by omega
                    have hk4 : (0 : Int) ≤ (kk : Int) := by omega
                    have hk5 : (G.length : Int) ≤ (c : Int) := by omega
                    have hown0 : (W5.alloc (Obj.cells #[] 54)).ownsRow W5.heap.size 54 2 (.slice (some ⟨W5.heap.size, 0, none⟩) 0 0) 0 [] := ⟨rfl, .inr ⟨W5.heap.size, 0, #[], rfl, Nat.le_refl _, heap_alloc_new W5 _, Nat.le_refl _, by unfold maxLen; omega, rfl, rfl⟩⟩
                    go_wp2_with (at_builtin; refine wpList_append_own _ rfl _ _ 28 rfl W5.heap.size 54 i1 (.agg #[.slice none 0 0, .int .i64 0]) 2 32 Try.underlying28 hi1 hz0' hz1' hz2' rfl (by decide) _ 0 [] rfl hown0 ⟨g, 0, none⟩ kk c A rfl lA (unhide HNA _ (below_new W5 _)) (unhide HOA) ?c1 ?c2 ?c3 ?_)
                    case c1 => unfold maxLen; omega
                    case c2 => omega
                    case c3 => simp
                    intro v1 w1 hown1 hgrow1 hnil1
                    have b1 : Below W5.heap.size W5 w1 := (below_new W5 _).trans ((Kept.of_grown hgrow1).below (by simp) (fun x hx => by simp [Value.ownBlock] at hx; omega))
                    have m1 := m5.below b1
                    have x0 : w1.cell? ⟨V.heap.size, 0, none⟩ = some (.slice am M1.length cm) := m1.cell 0 _ rfl
                    have x1 : w1.cell? ⟨V.heap.size, 1, none⟩ = some (.int .i64 z) := m1.cell 1 _ rfl
                    clear hown0 hgrow1 hnil1
                    have ho1 := World.ownsRow.lt hown1
                    go_wp2_with (at_builtin; refine wpList_append_own _ rfl _ _ 28 rfl W5.heap.size 54 i1 (.agg #[.slice none 0 0, .int .i64 0]) 2 32 Try.underlying28 hi1 hz0' hz1' hz2' rfl (by decide) _ _ _ rfl (hown1.alloc _) ⟨w1.heap.size, 0, none⟩ 1 1 [.slice am M1.length cm, .int .i64 z] rfl rfl (World.news_of_block (heap_alloc_new w1 _)) (by intro u hu; simp at hu; rcases hu with rfl | rfl <;> rfl) ?c1 ?c2 ?c3 ?_)
                    case c1 => unfold maxLen; omega
                    case c2 => omega
                    case c3 => have := b1.size; simp; omega
                    intro v2 w2 hown2 hgrow2 _
                    have b2 : Below W5.heap.size W5 w2 := (b1.trans ((below_new w1 _).mono b1.size)).trans ((Kept.of_grown hgrow2).below (by have := b1.size; simp; omega) (fun x hx => (ho1 x hx).1))
                    have ho2 := World.ownsRow.lt hown2
                    clear hown1 hgrow2 x0 x1 m1 ho1
                    obtain ⟨AD, hAD, HNE⟩ : ∃ AD : Addr, (if c = kk then some (⟨g, 0, none⟩ : Addr) else some ⟨g, kk * 2, none⟩) = some AD ∧ Hid (∀ W, Below W5.heap.size W5 W → ∀ j u, D[j]? = some u → W.cell? (AD.add j) = some u) := by
                      by_cases e : c = kk
                      · exact ⟨⟨g, 0, none⟩, if_pos e, fun W hW j u hu => by have h1 := (List.getElem?_eq_some_iff.1 hu).1; omega⟩
                      · exact ⟨⟨g, kk * 2, none⟩, if_neg e, unhide HND⟩
                    go_wp2_with (at_builtin; refine wpList_append_own _ rfl _ _ 28 rfl W5.heap.size 54 i1 (.agg #[.slice none 0 0, .int .i64 0]) 2 32 Try.underlying28 hi1 hz0' hz1' hz2' rfl (by decide) _ _ _ rfl hown2 AD (G.length - kk) (c - kk) D (by first | rfl | (show Value.slice (if c = kk then some (⟨g, 0, none⟩ : Addr) else some ⟨g, kk * 2, none⟩) _ _ = _; rw [hAD])) lD (unhide HNE _ b2) (unhide HOD) ?c1 ?c2 ?c3 ?_)
                    case c1 => unfold maxLen; omega
                    case c2 => omega
                    case c3 => exact b2.size
                    intro v3 w3 hown3 hgrow3 _
                    have b3 : Below W5.heap.size W5 w3 := b2.trans ((Kept.of_grown hgrow3).below b2.size (fun x hx => (ho2 x hx).1))
                    have hgo := unhide HGI _ _ b3 (by first | exact hown3 | simpa using hown3)
                    obtain ⟨g3, c3', e3⟩ : ∃ g c, v3 = .slice (some ⟨g, 0, none⟩) (insG ⟨M1, z⟩ G).length c := by
                      rcases hgo.2.1.2 with ⟨_, h0⟩ | ⟨g', cap, cur, e, _⟩
                      · rw [insG_len] at h0; omega
                      · exact ⟨g', cap, e⟩
                    subst e3
                    have HGO := hide hgo
                    have HB6 : Hid (Below w.heap.size w w3) := hbw.trans ((hbE.mono hbw.size).trans (b3.mono (Nat.le_trans hbw.size hbE.size)))
                    have HGM2 : Hid (∀ q ∈ insG ⟨M1, z⟩ G, q.M.length ≤ s) := fun q hq => by
                      unfold insG at hq
                      rcases List.mem_append.1 hq with hq | hq
                      · rcases List.mem_append.1 hq with hq | hq
                        · exact unhide HGM q (List.mem_of_mem_take hq)
                        · simp at hq; subst hq; exact hml0
                      · exact unhide HGM q (List.mem_of_mem_drop hq)
                    have hil := insG_len ⟨M1, z⟩ G
                    clear hown2 hown3 hgrow3 ho2 hgo
                    go_wp2_with fail
                    exact ⟨⟨i + 1, insG ⟨M1, z⟩ G, _, g3, c3', rfl, by go_num, by omega, by omega, by omega, HGM2, HGO, HR3, unhide HB6⟩, by simp [intOf]; omega⟩
                · have hk1 : ¬ (0 : Int) < (kk : Int) := by omega
                  have hpos : posF M1 G G.length = kk := by rw [unhide HP, show kk = 0 by omega]; rfl
                  go_wp2_with fail
                  refine wp_region_grown wr.heap.size (by kernel_rfl) (by kernel_rfl) ?_
                  repeat (go_big_quiet_step (fail))
                  refine wpQuiet_nil ?_
                  rintro w5 ⟨d5, rfl⟩
                  obtain ⟨W5, hb5⟩ := d5
                  dsimp only
                  have hbE : Below W2.heap.size W2 W5 := hb3.trans (hb5.mono hz3)
                  clear hk1 HP y0
                  have g5 := (unhide HG2).below hbE
                  have v5 := (unhide HV3).below hbE
                  have m5 := (unhide HM2).below hbE
                  have hg5 := World.ownsRow.lt g5.2.1 g rfl
                  have hV5 : V.heap.size < W5.heap.size := m5.lt
                  have hzl : (zsOf G).length = G.length := zsOf_length G
                  have hml : ms.length = (zsOf G).length := by rw [hzl]; exact g5.1
                  have lA : (gC (ms.take kk) ((zsOf G).take kk)).length = kk * 2 := by rw [gC_length _ _ (by simp [hml]), List.length_take]; congr 1; omega
                  have lD : (gC (ms.drop kk) ((zsOf G).drop kk)).length = (G.length - kk) * 2 := by rw [gC_length _ _ (by simp [hml]), List.length_drop, hzl]
                  have one : ∀ u ∈ ms, u.oneCell' = true := fun u hu => by
                    obtain ⟨j, hj, rfl⟩ := List.mem_iff_getElem.1 hu
                    exact own_one (g5.2.2 j hj (by omega))
                  have HOA := hide (gC_one (ms.take kk) ((zsOf G).take kk) (fun u hu => one u (List.mem_of_mem_take hu)))
                  have HOD := hide (gC_one (ms.drop kk) ((zsOf G).drop kk) (fun u hu => one u (List.mem_of_mem_drop hu)))
                  have HCL : Hid (∀ W, Below W5.heap.size W5 W → ∀ j u, (gC ms (zsOf G))[j]? = some u → W.cell? ⟨g, j, none⟩ = some u) := fun W hW j u hu => by
                    have := (g5.below hW).2.1.cells (g := g) rfl j u hu
                    rwa [addr_add] at this
                  have HSP := hide (gC_split ms (zsOf G) kk hml)
                  have HNA : Hid (∀ W, Below W5.heap.size W5 W → ∀ j u, (gC (ms.take kk) ((zsOf G).take kk))[j]? = some u → W.cell? ((⟨g, 0, none⟩ : Addr).add j) = some u) := fun W hW j u hu => by
                    rw [addr_add]
                    have hj := (List.getElem?_eq_some_iff.1 hu).1
                    exact unhide HCL W hW j u (by rw [unhide HSP, List.getElem?_append_left hj]; exact hu)
                  have HND : Hid (∀ W, Below W5.heap.size W5 W → ∀ j u, (gC (ms.drop kk) ((zsOf G).drop kk))[j]? = some u → W.cell? ((⟨g, kk * 2, none⟩ : Addr).add j) = some u) := fun W hW j u hu => by
                    rw [show (⟨g, kk * 2, none⟩ : Addr).add j = ⟨g, kk * 2 + j, none⟩ by simp [Addr.add]]
                    exact unhide HCL W hW (kk * 2 + j) u (by rw [unhide HSP, List.getElem?_append_right (by omega), lA, show kk * 2 + j - kk * 2 = j by omega]; exact hu)
                  have hcap : G.length ≤ c := by
                    rcases g5.2.1.2 with ⟨e, _⟩ | ⟨g', cap, cur, e, _, _, hc, _⟩
                    · simp at e
                    · simp at e; omega
                  have HG5 := hide g5
                  have HV5 := hide v5
                  have HGI : Hid (∀ W v', Below W5.heap.size W5 W → W.ownsRow W5.heap.size 54 2 v' (kk + 1 + (G.length - kk)) ((gC (ms.take kk) ((zsOf G).take kk) ++ [.slice am M1.length cm, .int .i64 z]) ++ gC (ms.drop kk) ((zsOf G).drop kk)) → GOwn W w.heap.size v' (ms.take kk ++ [.slice am M1.length cm] ++ ms.drop kk) (insG ⟨M1, z⟩ G)) := fun W v' hW ho => by
                    have gW := (unhide HG5).below hW
                    unfold insG
                    rw [hpos]
                    have hw5 : w.heap.size ≤ W5.heap.size := Nat.le_trans hbw.size hbE.size
                    exact gown_ins (x := ⟨M1, z⟩) gW.1 hkk (own_lower hw5 ho) gW.2.2 (InOwn.lower ((unhide HV5).below hW) (by have := hb.size; omega))
                  clear HCL HSP g5 v5 one hml
                  generalize gC (ms.take kk) ((zsOf G).take kk) = A at lA HOA HNA HGI
                  generalize gC (ms.drop kk) ((zsOf G).drop kk) = D at lD HOD HND HGI
                  obtain ⟨i1, hi1, hz0', hz1', hz2'⟩ := info_parts info_group
                  have hk2 : (kk : Int) ≤ (c : Int) := by omega
                  have hk3 : (kk : Int) ≤ (G.length : Int) := by omega
                  have hk4 : (0 : Int) ≤ (kk : Int) := by omega
                  have hk5 : (G.length : Int) ≤ (c : Int) := by omega
                  have hown0 : (W5.alloc (Obj.cells #[] 54)).ownsRow W5.heap.size 54 2 (.slice (some ⟨W5.heap.size, 0, none⟩) 0 0) 0 [] := ⟨rfl, .inr ⟨W5.heap.size, 0, #[], rfl, Nat.le_refl _, heap_alloc_new W5 _, Nat.le_refl _, by unfold maxLen; omega, rfl, rfl⟩⟩
                  go_wp2_with (at_builtin; refine wpList_append_own _ rfl _ _ 28 rfl W5.heap.size 54 i1 (.agg #[.slice none 0 0, .int .i64 0]) 2 32 Try.underlying28 hi1 hz0' hz1' hz2' rfl (by decide) _ 0 [] rfl hown0 ⟨g, 0, none⟩ kk c A rfl lA (unhide HNA _ (below_new W5 _)) (unhide HOA) ?c1 ?c2 ?c3 ?_)
                  case c1 => unfold maxLen; omega
                  case c2 => omega
                  case c3 => simp
                  intro v1 w1 hown1 hgrow1 hnil1
                  have b1 : Below W5.heap.size W5 w1 := (below_new W5 _).trans ((Kept.of_grown hgrow1).below (by simp) (fun x hx => by simp [Value.ownBlock] at hx; omega))
                  have m1 := m5.below b1
                  have x0 : w1.cell? ⟨V.heap.size, 0, none⟩ = some (.slice am M1.length cm) := m1.cell 0 _ rfl
                  have x1 : w1.cell? ⟨V.heap.size, 1, none⟩ = some (.int .i64 z) := m1.cell 1 _ rfl
                  clear hown0 hgrow1 hnil1
                  have ho1 := World.ownsRow.lt hown1
                  go_wp2_with (at_builtin; refine wpList_append_own _ rfl _ _ 28 rfl W5.heap.size 54 i1 (.agg #[.slice none 0 0, .int .i64 0]) 2 32 Try.underlying28 hi1 hz0' hz1' hz2' rfl (by decide) _ _ _ rfl (hown1.alloc _) ⟨w1.heap.size, 0, none⟩ 1 1 [.slice am M1.length cm, .int .i64 z] rfl rfl (World.news_of_block (heap_alloc_new w1 _)) (by intro u hu; simp at hu; rcases hu with rfl | rfl <;> rfl) ?c1 ?c2 ?c3 ?_)
                  case c1 => unfold maxLen; omega
                  case c2 => omega
                  case c3 => have := b1.size; simp; omega
                  intro v2 w2 hown2 hgrow2 _
                  have b2 : Below W5.heap.size W5 w2 := (b1.trans ((below_new w1 _).mono b1.size)).trans ((Kept.of_grown hgrow2).below (by have := b1.size; simp; omega) (fun x hx => (ho1 x hx).1))
                  have ho2 := World.ownsRow.lt hown2
                  clear hown1 hgrow2 x0 x1 m1 ho1
                  obtain ⟨AD, hAD, HNE⟩ : ∃ AD : Addr, (if c = kk then some (⟨g, 0, none⟩ : Addr) else some ⟨g, kk * 2, none⟩) = some AD ∧ Hid (∀ W, Below W5.heap.size W5 W → ∀ j u, D[j]? = some u → W.cell? (AD.add j) = some u) := by
                    by_cases e : c = kk
                    · exact ⟨⟨g, 0, none⟩, if_pos e, fun W hW j u hu => by have h1 := (List.getElem?_eq_some_iff.1 hu).1; omega⟩
                    · exact ⟨⟨g, kk * 2, none⟩, if_neg e, unhide HND⟩
                  go_wp2_with (at_builtin; refine wpList_append_own _ rfl _ _ 28 rfl W5.heap.size 54 i1 (.agg #[.slice none 0 0, .int .i64 0]) 2 32 Try.underlying28 hi1 hz0' hz1' hz2' rfl (by decide) _ _ _ rfl hown2 AD (G.length - kk) (c - kk) D (by first | rfl | (show Value.slice (if c = kk then some (⟨g, 0, none⟩ : Addr) else some ⟨g, kk * 2, none⟩) _ _ = _; rw [hAD])) lD (unhide HNE _ b2) (unhide HOD) ?c1 ?c2 ?c3 ?_)
                  case c1 => unfold maxLen; omega
                  case c2 => omega
                  case c3 => exact b2.size
                  intro v3 w3 hown3 hgrow3 _
                  have b3 : Below W5.heap.size W5 w3 := b2.trans ((Kept.of_grown hgrow3).below b2.size (fun x hx => (ho2 x hx).1))
                  have hgo := unhide HGI _ _ b3 (by first | exact hown3 | simpa using hown3)
                  obtain ⟨g3, c3', e3⟩ : ∃ g c, v3 = .slice (some ⟨g, 0, none⟩) (insG ⟨M1, z⟩ G).length c := by
                    rcases hgo.2.1.2 with ⟨_, h0⟩ | ⟨g', cap, cur, e, _⟩
                    · rw [insG_len] at h0; omega
                    · exact ⟨g', cap, e⟩
                  subst e3
                  have HGO := hide hgo
                  have HB6 : Hid (Below w.heap.size w w3) := hbw.trans ((hbE.mono hbw.size).trans (b3.mono (Nat.le_trans hbw.size hbE.size)))
                  have HGM2 : Hid (∀ q ∈ insG ⟨M1, z⟩ G, q.M.length ≤ s) := fun q hq => by
                    unfold insG at hq
                    rcases List.mem_append.1 hq with hq | hq
                    · rcases List.mem_append.1 hq with hq | hq
                      · exact unhide HGM q (List.mem_of_mem_take hq)
                      · simp at hq; subst hq; exact hml0
                    · exact unhide HGM q (List.mem_of_mem_drop hq)
                  have hil := insG_len ⟨M1, z⟩ G
                  clear hown2 hown3 hgrow3 ho2 hgo
                  go_wp2_with fail
                  exact ⟨⟨i + 1, insG ⟨M1, z⟩ G, _, g3, c3', rfl, by go_num, by omega, by omega, by omega, HGM2, HGO, HR3, unhide HB6⟩, by simp [intOf]; omega⟩
    · obtain rfl : i = n := by omega
      have hi1 : ¬ (i : Int) < (i : Int) := by omega
      have e : R = G := by rw [unhide HR, Nat.sub_self]; rfl
      have HX : Hid (∃ ms, GOwn wr w.heap.size (.slice (some ⟨g, 0, none⟩) R.length c) ms R) := ⟨ms, by rw [e]; exact unhide HG⟩
      rw [← e]
      clear HG HR e
      go_wp2_with fail
      go_ret
      exact ⟨⟨g, c, rfl, unhide HX⟩, hb⟩
end
section
variable {w : World} {b lo : Nat} {aQ : Option Addr} {cQ s : Nat} {Q : List EdgeI} {y : List Int} {N : List Nd} {M : List Lk} {k : Int} {d : Bool} {vv : Vs}
theorem info_node : (Try.prog.info? 102).map (fun i => (i.zero, i.size, i.bytes)) = some (some (.agg #[.slice none 0 0, .slice none 0 0, .int .i64 0, .int .i64 0, .int .i64 0, .bool false]), 6, 80) := by kernel_rfl
theorem way_len' (N : List Nd) (t : Tp) : ∀ (k x : Nat), (wayF N t k x).length ≤ k + 1
  | 0, x => by simp [wayF]
  | k + 1, x => by
    rw [wayF]
    split
    · simp
    · have := way_len' N t k (par N t x)
      simp only [List.length_cons]
      omega
set_option maxRecDepth 100000 in
set_option maxHeartbeats 4000000 in
theorem shrink_any (h : RunAt w b lo aQ cQ s Q y N M k d vv) (hlo : lo ≤ w.heap.size) (I : Inv s N M) (hn5 : N.length ≤ 500000) (hM : M.length ≤ 1000000) {bt lt : Nat} {t : Tp} {vl va vr : Value} (hT : TpAt w bt lt t vl va vr) {rk : Nat → Nat} (F : For s N M t rk) (e : EdgeI) (hA : 0 ≤ e.A ∧ e.A < (s : Int)) (hB : 0 ≤ e.B ∧ e.B < (s : Int)) (la : lab t (top N e.A.toNat) = 1) (lb : lab t (top N e.B.toNat) = 1) (hr : rt t (top N e.A.toNat) = rt t (top N e.B.toNat)) :
    Calls Try.prog 74 #[.pointer (some ⟨b, 0, none⟩), .pointer (some ⟨bt, 0, none⟩), .agg #[.int .i64 e.A, .int .i64 e.B, .int .i64 e.W1, .int .i64 e.W2, .int .i64 e.W3]] w fun u w' => u = .returned (.tuple #[]) ∧ (∃ vv', RunAt w' b lo aQ cQ s Q y (shrunk N M t e.A.toNat e.B.toNat).1 (shrunk N M t e.A.toNat e.B.toNat).2 k d vv') ∧ Below lo w w' := by
  have hn : N.length ≤ 1000000 := by omega
  have hge := I.ge
  have hnz := nz_le t
  rw [F.l1] at hnz
  have U0 := I.ups
  obtain ⟨eA, heA⟩ := Int.eq_ofNat_of_zero_le hA.1
  obtain ⟨eB, heB⟩ := Int.eq_ofNat_of_zero_le hB.1
  obtain ⟨xA, xB, x1, x2, x3⟩ := e
  simp only at heA heB hA hB la lb hr ⊢
  subst heA heB
  simp only [Int.toNat_natCast] at la lb hr ⊢
  have wA := way_of F (show lab t (top N eA) ≠ 0 by omega)
  have wB := way_of F (show lab t (top N eB) ≠ 0 by omega)
  have hlA : (wayOf N t (top N eA)).length ≤ N.length + 1 := way_len' N t _ _
  have hlB : (wayOf N t (top N eB)).length ≤ N.length + 1 := way_len' N t _ _
  have TT := hide (fun W (hF : Fresh w W) v hv => top_any (h.below hF hlo) U0 hn v hv)
  have WY : Hid (∀ W, Fresh w W → ∀ z : Nat, lab t z ≠ 0 → Calls Try.prog 80 #[.pointer (some ⟨b, 0, none⟩), .pointer (some ⟨bt, 0, none⟩), .int .i64 (z : Int)] W fun u w' => (∃ a c, u = .returned (.slice a (wayOf N t z).length c) ∧ NaOwn w' W.heap.size (.slice a (wayOf N t z).length c) (wayOf N t z)) ∧ Below W.heap.size W w') := fun W hF z hz => by
    have h1 := F.rkb z hz
    refine (way_any (h.below hF hlo) (Nat.le_trans hlo hF.size) U0 hn hge (hT.below hF) F N.length z hz (by omega) hn).mono ?_
    rintro u w' ⟨⟨d, rfl, ho⟩, hb⟩
    obtain ⟨a, c, e⟩ := na_slice ho
    rw [e] at ho ⊢
    exact ⟨⟨a, c, rfl, ho⟩, hb⟩
  have hLA : ∀ {x : Nat} {W : List Nat}, IsWay N t rk x W → lab t x = 1 → ∀ i, i < W.length → W.getD i 0 < N.length := fun {x W} hw hx i hi => by
    rw [getD_at _ _ _ hi]
    have := hw.lb i hi
    have h0 : lab t W[i] ≠ 0 := by rw [this]; split <;> omega
    exact (F.tp _ h0).1
  have HLTA := hide (hLA wA la)
  have HLTB := hide (hLA wB lb)
  obtain ⟨hi, hm, hf⟩ := fstIn_spec (wayOf N t (top N eB)) (wayOf N t (top N eA)) (ways_meet wA wB hr)
  have ei : (wayOf N t (top N eA)).getD (fstIn (wayOf N t (top N eB)) (wayOf N t (top N eA))) 0 = (wayOf N t (top N eA))[fstIn (wayOf N t (top N eB)) (wayOf N t (top N eA))] := getD_at _ _ _ hi
  rw [← ei] at hm
  have hk := (plcOf_spec _ _ hm).1
  have HNF : Hid (∀ j, j < fstIn (wayOf N t (top N eB)) (wayOf N t (top N eA)) → decide ((wayOf N t (top N eA)).getD j 0 ∈ wayOf N t (top N eB)) = false) := fun j hj => by
    rw [getD_at _ _ _ (by omega)]
    exact decide_eq_false (hf j hj)
  obtain ⟨R, hR⟩ : ∃ R, R = shrunk N M t eA eB := ⟨_, rfl⟩
  rw [← hR]
  have HRR : Hid (R = (setUps (N ++ [newRing N M t ⟨eA, eB⟩ (wayOf N t (top N eA)) (wayOf N t (top N eB)) (fstIn (wayOf N t (top N eB)) (wayOf N t (top N eA))) (plcOf ((wayOf N t (top N eA)).getD (fstIn (wayOf N t (top N eB)) (wayOf N t (top N eA))) 0) (wayOf N t (top N eB))) ((wayOf N t (top N eA)).getD (fstIn (wayOf N t (top N eB)) (wayOf N t (top N eA))) 0)]) (ringOf (wayOf N t (top N eA)) (wayOf N t (top N eB)) (fstIn (wayOf N t (top N eB)) (wayOf N t (top N eA))) (plcOf ((wayOf N t (top N eA)).getD (fstIn (wayOf N t (top N eB)) (wayOf N t (top N eA))) 0) (wayOf N t (top N eB)))) (N.length : Int), keepM N (ringOf (wayOf N t (top N eA)) (wayOf N t (top N eB)) (fstIn (wayOf N t (top N eB)) (wayOf N t (top N eA))) (plcOf ((wayOf N t (top N eA)).getD (fstIn (wayOf N t (top N eB)) (wayOf N t (top N eA))) 0) (wayOf N t (top N eB)))) M)) := hR
  clear hR ei hf
  have zA : lab t (top N eA) ≠ 0 := by omega
  have zB : lab t (top N eB) ≠ 0 := by omega
  have WYA := hide (fun W hF => unhide WY W hF (top N eA) zA)
  have WYB := hide (fun W hF => unhide WY W hF (top N eB) zB)
  clear WY hLA wA wB
  generalize wayOf N t (top N eA) = A at *
  generalize wayOf N t (top N eB) = B at *
  obtain ⟨i, hi_⟩ : ∃ i, i = fstIn B A := ⟨_, rfl⟩
  rw [← hi_] at hi hm hk HNF HRR
  obtain ⟨p, hp_⟩ : ∃ p, p = A.getD i 0 := ⟨_, rfl⟩
  have HP_ := hide hp_
  rw [← hp_] at hm hk HRR
  obtain ⟨q, hq_⟩ : ∃ q, q = plcOf p B := ⟨_, rfl⟩
  have HPLC : Hid (placeOf (natI B) (p : Int) = (q : Int)) := by show _ = _; rw [place_nat B p hm, hq_]
  rw [← hq_] at hk HRR
  unfold newRing at HRR
  have HIN : Hid (decide (p ∈ B) = true) := decide_eq_true hm
  have HMEM0 : Hid (∀ x ∈ ringOf A B i q, x < N.length) := fun x hx => by
    unfold ringOf at hx
    rcases List.mem_append.1 hx with hx | hx
    · obtain ⟨j, hj, e⟩ := List.mem_iff_getElem.1 (List.mem_of_mem_take (List.mem_reverse.1 hx))
      have := unhide HLTA j hj
      rw [getD_at _ _ _ hj, e] at this
      exact this
    · obtain ⟨j, hj, e⟩ := List.mem_iff_getElem.1 (List.mem_of_mem_take hx)
      have := unhide HLTB j hj
      rw [getD_at _ _ _ hj, e] at this
      exact this
  clear hi_ hp_ hm
  clear hq_
  have TA := hide (fun W hF => unhide TT W hF eA (by omega))
  have TB := hide (fun W hF => unhide TT W hF eB (by omega))
  generalize top N eA = tA at *
  generalize top N eB = tB at *
  obtain ⟨nA, hnA⟩ : ∃ n, n = A.length := ⟨_, rfl⟩
  obtain ⟨nB, hnB⟩ : ∃ n, n = B.length := ⟨_, rfl⟩
  rw [← hnA] at hlA hi WYA HLTA
  rw [← hnB] at hlB hk WYB HLTB
  have HNA := hide hnA
  have HNB := hide hnB
  have hE : ∀ v ∈ ends M, v < N.length := fun v hv => by have := I.fin v hv; omega
  have HE := hide hE
  have HBS := hide (fun W (hF : Fresh w W) => base_any (h.below hF hlo) (Nat.le_trans hlo hF.size) U0 hn hM hE p (by have := unhide HLTA i hi; have := unhide HP_; omega))
  have HRUN := hide h
  have HTP := hide hT
  have HF3 : Hid (t.ahead.length = N.length) := F.l2
  have hN0 : 0 < N.length := by have := unhide HLTA i hi; omega
  have HTT := TT
  clear h hT F I U0 hge hnz la lb hr hE hnA hnB zA zB TT
  go_enter Try.func74, Try.ntmps74
  go_wp2_with fail
  obtain ⟨U, hU⟩ : ∃ W, W = w.alloc (Obj.cells #[.int .i64 (eA : Int), .int .i64 (eB : Int), .int .i64 x1, .int .i64 x2, .int .i64 x3] 68) := ⟨_, rfl⟩
  rw [← hU]
  have hFU : Fresh w U := by rw [hU]; exact (Fresh.refl w).alloc
  have mU : Blk U w.heap.size #[.int .i64 (eA : Int), .int .i64 (eB : Int), .int .i64 x1, .int .i64 x2, .int .i64 x3] 68 := by rw [hU]; exact Blk.new0
  clear hU
  refine (unhide TA U hFU).mono ?_
  rintro e w1 ⟨rfl, hw1⟩
  have hw1' := hw1.symm
  subst hw1'
  go_wp2_with fail
  refine (unhide WYA U hFU).mono ?_
  rintro e w2 ⟨⟨aA, cA, rfl, hoA⟩, hb2⟩
  have hF2 : Fresh w w2 := hFU.below hb2
  have m2 := mU.below hb2
  have c1 : w2.cell? ⟨w.heap.size, 1, none⟩ = some (.int .i64 (eB : Int)) := m2.cell 1 _ rfl
  have hoA2 : NaOwn w2 w.heap.size (.slice aA nA cA) A := own_lower hFU.size hoA
  clear hb2 mU hFU hw1 TA WYA hoA
  go_wp2_with fail
  refine (unhide TB w2 hF2).mono ?_
  rintro e w3 ⟨rfl, hw3⟩
  have hw3' := hw3.symm
  subst hw3'
  go_wp2_with fail
  refine (unhide WYB w2 hF2).mono ?_
  rintro e W1 ⟨⟨aB, cB, rfl, hoB⟩, hb3⟩
  have hF3 : Fresh w W1 := hF2.below hb3
  have m3 := m2.below hb3
  have oA := own_below hoA2 hb3
  have oB : NaOwn W1 w.heap.size (.slice aB nB cB) B := own_lower hF2.size hoB
  clear hb3 hw3 TB WYB hoB hoA2 m2 c1 hF2
  -- what stands from now on
  obtain ⟨ga, ca, ea, hga, hca⟩ := lk_cellsD ((unhide HTP).below hF3).ahd (by rw [unhide HF3]; exact hN0)
  have hbt := ((unhide HTP).below hF3).box.lt
  have HAH : Hid (∀ W, Below W1.heap.size W1 W → W.cell? ⟨bt, 1, none⟩ = some (.slice (some ⟨ga, 0, none⟩) N.length ca) ∧ bt < W.heap.size ∧ ga < W.heap.size ∧ ∀ x, x < N.length → W.cell? ⟨ga, x * 2, none⟩ = some (.int .i64 ((ahd t x).f : Int)) ∧ W.cell? ⟨ga, x * 2 + 1, none⟩ = some (.int .i64 ((ahd t x).t : Int))) := fun W hb => by
    have hz := hb.size
    have q1 := (((unhide HTP).below hF3).box.below hb).cell 1 _ rfl
    rw [ea, unhide HF3] at q1
    refine ⟨q1, by omega, by omega, fun x hx => ?_⟩
    obtain ⟨d0, d1⟩ := hca x (by rw [unhide HF3]; exact hx)
    exact ⟨(hb.cell (p := ⟨ga, x * 2, none⟩) hga).trans d0, (hb.cell (p := ⟨ga, x * 2 + 1, none⟩) hga).trans d1⟩
  have row : ∀ {L : List Nat} {a : Option Addr} {n c : Nat}, NaOwn W1 w.heap.size (.slice a n c) L → n = L.length → ∀ W, Below W1.heap.size W1 W → ∀ j, j < n → ∃ g, a = some ⟨g, 0, none⟩ ∧ g < W.heap.size ∧ W.cell? ⟨g, j, none⟩ = some (.int .i64 ((L.getD j 0 : Nat) : Int)) := fun {L a n c} ho hnl W hb j hj => by
    obtain ⟨g, c', e, hg, hc⟩ := na_cells (own_below ho hb) (by omega)
    simp at e
    exact ⟨g, e.1, hg, hc j (by omega)⟩
  have HCA := hide (row oA (unhide HNA))
  have HCB := hide (row oB (unhide HNB))
  have HINB : Hid (∀ W, Below W1.heap.size W1 W → ∀ x : Nat, Calls Try.prog 44 #[.slice aB nB cB, .int .i64 (x : Int)] W fun e w' => e = .returned (.bool (decide (x ∈ B))) ∧ w' = W) := fun W hb x => by
    rw [← inK_nat]
    exact l03In_any aB nB cB W.heap.size (natI B) (x : Int) (by omega) W (na_ints (own_below oB hb) (unhide HNB))
  have HPL : Hid (∀ W, Below W1.heap.size W1 W → Calls Try.prog 81 #[.slice aB nB cB, .int .i64 (p : Int)] W fun e w' => e = .returned (.int .i64 (q : Int)) ∧ w' = W) := fun W hb => by
    rw [← unhide HPLC]
    exact place_any aB nB cB W.heap.size (natI B) (p : Int) (by omega) W (na_ints (own_below oB hb) (unhide HNB))
  have HEX : Hid (∀ W, Below W1.heap.size W1 W → w.heap.size < W.heap.size ∧ W.cell? ⟨w.heap.size, 0, none⟩ = some (.int .i64 (eA : Int)) ∧ W.cell? ⟨w.heap.size, 1, none⟩ = some (.int .i64 (eB : Int))) := fun W hb => ⟨(m3.below hb).lt, (m3.below hb).cell 0 _ rfl, (m3.below hb).cell 1 _ rfl⟩
  have HFW : Hid (∀ W, Below W1.heap.size W1 W → Fresh w W) := fun W hb => hF3.below hb
  have hz1 : w.heap.size ≤ W1.heap.size := hF3.size
  have HW1 := hide hF3
  clear row hca ea hga hbt m3 oA oB hF3
  have hb0 : Below W1.heap.size W1 W1 := Below.refl _ _
  go_upto_block 0 with fail
  go_cut [8] (fun iv wx => iv = .int .i64 (i : Int) ∧ wx = W1)
  case first =>
    go_wp2_with fail
    go_loopw [8] (fun iv wr => ∃ j : Nat, iv = .int .i64 (j : Int) ∧ j ≤ i ∧ wr = W1) (fun iv _ => i - (intOf iv).toNat)
    case atStart => exact ⟨0, rfl, Nat.zero_le _, rfl⟩
    case round =>
      obtain ⟨j, rfl, hj, rfl⟩ := hrel
      obtain ⟨g, rfl, hg, cr⟩ := unhide HCA wr hb0 j (by omega)
      have hj0 : (0 : Int) ≤ (j : Int) := by omega
      have hj1 : (j : Int) < (nA : Int) := by omega
      have IN := hide (unhide HINB wr hb0 (A.getD j 0))
      by_cases hlt : j < i
      · rw [unhide HNF j hlt] at IN
        generalize ((A.getD j 0 : Nat) : Int) = xv at cr IN
        go_wp2_with fail
        refine (unhide IN).mono ?_
        rintro e w5 ⟨rfl, rfl⟩
        go_wp2_with fail
        exact ⟨⟨j + 1, by go_num, by omega, trivial⟩, by simp [intOf]; omega⟩
      · obtain rfl : j = i := by omega
        rw [← unhide HP_] at cr IN
        rw [unhide HIN] at IN
        go_wp2_with fail
        refine (unhide IN).mono ?_
        rintro e w5 ⟨rfl, rfl⟩
        go_wp2_with fail
        go_meet
        exact ⟨rfl, rfl⟩
  case rest =>
    obtain ⟨rfl, hwc⟩ := hcut
    have hwc' := hwc.symm
    subst hwc'
    clear hwc
    obtain ⟨i0, hi0', hy0, hy1, hy2⟩ := info_parts info_int
    obtain ⟨j0, hj0', hz0, hz1', hz2⟩ := info_parts info_link
    obtain ⟨gA, rfl, hgA, cr⟩ := unhide HCA W1 hb0 i hi
    rw [← unhide HP_] at cr
    have hi0 : (0 : Int) ≤ (i : Int) := by omega
    have hi1 : (i : Int) < (nA : Int) := by omega
    go_wp2_with fail
    refine (unhide HPL W1 hb0).mono ?_
    rintro e w5 ⟨rfl, hw5⟩
    have hw5' := hw5.symm
    subst hw5'
    clear hw5 HPL HNF HINB HIN
    go_upto_block 2 with fail
    obtain ⟨X2, hX2⟩ : ∃ W, W = (W1.alloc (Obj.cells #[.int .i64 (p : Int)] 3)).alloc (Obj.cells #[] 83) := ⟨_, rfl⟩
    rw [← hX2]
    have HRL0 : Hid (RL W1 X2 (.slice (some ⟨W1.heap.size, 0, none⟩) 1 1) (.slice (some ⟨W1.heap.size + 1, 0, none⟩) 0 0) [p] []) := by
      show RL _ _ _ _ _ _
      rw [hX2]
      refine ⟨?_, ?_, (below_new _ _).alloc (by simp) _⟩
      · exact own_below (w := W1.alloc (Obj.cells #[.int .i64 (p : Int)] 3)) ⟨rfl, .inr ⟨W1.heap.size, 1, _, rfl, Nat.le_refl _, heap_alloc_new W1 _, Nat.le_refl _, by unfold maxLen; omega, rfl, rfl⟩⟩ (below_new _ _)
      · have := World.ownsRow_made (W1.alloc (Obj.cells #[.int .i64 (p : Int)] 3)) (e := 83) (size := 2) #[] 0 (base := W1.heap.size) (by simp) (Nat.zero_le _) rfl
        unfold LkOwn
        simpa [lksV] using this
    clear hX2 cr
    have eR0 : ((A.take (i + 1)).drop i).reverse = [p] := by
      have hl : i < A.length := by have := unhide HNA; omega
      rw [unhide HP_, getD_at _ _ _ hl, List.take_succ_eq_append_getElem hl, List.drop_append_of_le_length (by rw [List.length_take]; omega)]
      simp
    have eL0 : (((A.take i).drop i).reverse.map (ahd t)) = [] := by simp
    have HR0 : Hid (RL W1 X2 (.slice (some ⟨W1.heap.size, 0, none⟩) 1 1) (.slice (some ⟨W1.heap.size + 1, 0, none⟩) 0 0) ((A.take (i + 1)).drop i).reverse (((A.take i).drop i).reverse.map (ahd t))) := by rw [eR0, eL0]; exact HRL0
    have HRS : Hid (∀ m, m < i → ((A.take (i + 1)).drop m).reverse = ((A.take (i + 1)).drop (m + 1)).reverse ++ [A.getD m 0] ∧ ((A.take i).drop m).reverse.map (ahd t) = ((A.take i).drop (m + 1)).reverse.map (ahd t) ++ [ahd t (A.getD m 0)]) := fun m hm => by
      have hl : i < A.length := by have := unhide HNA; omega
      have e1 := rev_step (A.take (i + 1)) m (by rw [List.length_take]; omega)
      have e2 := rev_step (A.take i) m (by rw [List.length_take]; omega)
      have g1 : (A.take (i + 1)).getD m 0 = A.getD m 0 := by simp only [List.getD_eq_getElem?_getD]; rw [List.getElem?_take_of_lt (by omega)]
      have g2 : (A.take i).getD m 0 = A.getD m 0 := by simp only [List.getD_eq_getElem?_getD]; rw [List.getElem?_take_of_lt (by omega)]
      rw [g1] at e1
      rw [g2] at e2
      exact ⟨e1, by rw [e2, List.map_append]; rfl⟩
    have HRN : Hid (∀ m, ((A.take (i + 1)).drop m).reverse.length ≤ 500002 ∧ (((A.take i).drop m).reverse.map (ahd t)).length ≤ 500002) := fun m => by
      have := unhide HNA
      simp only [List.length_reverse, List.length_drop, List.length_take, List.length_map]
      omega
    clear HRL0 eR0 eL0
    go_cut [10, 11] (fun vr vl wx => ∃ vr' vl', vr' = vr ∧ vl' = vl ∧ Hid (RL W1 wx vr' vl' (A.take (i + 1)).reverse ((A.take i).reverse.map (ahd t))))
    case first =>
      go_wp2_with fail
      go_loopw [10, 11, 12] (fun vr vl jv wr => ∃ (m : Nat) (z : Int) (vr' vl' : Value), jv = .int .i64 z ∧ Hid (z = (m : Int) - 1) ∧ vr' = vr ∧ vl' = vl ∧ m ≤ i ∧ Hid (RL W1 wr vr' vl' ((A.take (i + 1)).drop m).reverse (((A.take i).drop m).reverse.map (ahd t)))) (fun _ _ jv _ => (intOf jv + 1).toNat)
      case atStart => exact ⟨i, _, _, _, rfl, rfl, rfl, rfl, Nat.le_refl _, HR0⟩
      case round =>
        obtain ⟨m, z, vr', vl', rfl, HZ, rfl, rfl, hm, HRL⟩ := hrel
        by_cases hm0 : m = 0
        · subst hm0
          obtain rfl : z = -1 := by have := unhide HZ; omega
          go_wp2_with fail
          go_meet
          exact ⟨_, _, rfl, rfl, HRL⟩
        · obtain ⟨m', rfl⟩ : ∃ m', m = m' + 1 := ⟨m - 1, by omega⟩
          obtain rfl : z = (m' : Int) := by have := unhide HZ; omega
          obtain ⟨gA2, eg, hg2, cr⟩ := unhide HCA wr (unhide HRL).2.2 m' (by omega)
          obtain rfl : gA = gA2 := by simpa using eg
          obtain ⟨e1, e2⟩ := unhide HRS m' (by omega)
          have HE1 := hide e1
          have HE2 := hide e2
          obtain ⟨l1, l2⟩ := unhide HRN (m' + 1)
          have hxN := unhide HLTA m' (by omega)
          have hm1 : (0 : Int) ≤ (m' : Int) := by omega
          have hm2 : (m' : Int) < (nA : Int) := by omega
          have hbW := (unhide HRL).2.2.size
          generalize hXV : A.getD m' 0 = x at cr HE1 HE2 hxN
          have HXV := hide hXV
          clear hXV
          generalize ((A.take (i + 1)).drop (m' + 1)).reverse = RI at HRL HE1 l1
          generalize ((A.take i).drop (m' + 1)).reverse.map (ahd t) = LI at HRL HE2 l2
          have hown := (unhide HRL).1
          unfold NaOwn at hown
          clear e1 e2 eg
          go_wp2_with (at_builtin; refine wpList_append_own _ rfl _ _ 27 rfl W1.heap.size 3 i0 (.int .i64 0) 1 8 Try.underlying27 hi0' hy0 hy1 hy2 rfl (by decide) _ _ _ rfl (hown.alloc _) ⟨wr.heap.size, 0, none⟩ 1 1 [.int .i64 (x : Int)] rfl rfl (cell_one_new _ _ _) (one_int _) ?c3 ?c4 ?c5 ?_)
          case c3 => unfold maxLen; omega
          case c4 => omega
          case c5 => simp; omega
          intro v7 w7 hown7 hgrow7 _
          have h7 := (unhide HRL).ring hgrow7 hown7
          have HR7 := hide h7
          clear hown hown7 hgrow7 cr h7 HRL
          obtain ⟨q1, hbtl, hgal, hq⟩ := unhide HAH w7 (unhide HR7).2.2
          obtain ⟨qf, qt⟩ := hq x hxN
          obtain ⟨gA3, eg, hg3, cr⟩ := unhide HCA w7 (unhide HR7).2.2 m' (by omega)
          obtain rfl : gA = gA3 := by simpa using eg
          rw [unhide HXV] at cr
          obtain ⟨aM, cM, eM⟩ := lk_slice (unhide HR7).2.1
          subst eM
          have HOD : w7.drew.ownsRow W1.heap.size 83 2 (.slice aM LI.length cM) LI.length (lksV LI) := World.ownsRow.drew (unhide HR7).2.1
          have hbW7 := (unhide HR7).2.2.size
          generalize hahx : ahd t x = ax at qf qt HE2
          obtain ⟨xf, xt⟩ := ax
          simp only at qf qt
          obtain ⟨n, hNn⟩ : ∃ n, n = N.length := ⟨_, rfl⟩
          rw [← hNn] at q1 hxN
          have hx0 : (0 : Int) ≤ (x : Int) := by omega
          have hx1 : (x : Int) < (n : Int) := by omega
          clear hq eg hahx hNn
          go_wp2_with fail
          go_region_law
            (first
              | (refine step_append_lies _ (by rfl) _ _ _ (by rfl) W1.heap.size 83 j0 _ 2 16 Try.underlying76 hj0' hz0 hz1' hz2 rfl (by omega) (.slice aM LI.length cM) LI.length (lksV LI) (by show _ = _; kernel_rfl) (by first | exact HOD.alloc _ | exact (HOD.alloc _).drew) ⟨w7.heap.size, 0, none⟩ 1 1 [.int .i64 (xf : Int), .int .i64 (xt : Int)] (by show _ = _; kernel_rfl) (by rfl) (World.news_of_block (heap_alloc_new w7.drew _)) (by intro u hu; simp at hu; rcases hu with rfl | rfl <;> rfl) (by omega) (by unfold maxLen; omega) (by omega) (by simp; omega) (w7.heap.size + 1) (by simp) ?_; intro g14 cap14 w14 hown14 hgrow14 hat14 hlt14))
          all_goals
            have s1 := (unhide HR7).link (x := ⟨xf, xt⟩) ((Below.refl w7.heap.size w7).drew.alloc (Nat.le_refl _) _) hgrow14 hown14
            have HS1 := hide s1
            clear s1 hown14 hgrow14 hat14 hlt14
            go_wp2_with fail
            refine ⟨⟨m', _, _, _, rfl, by show _ = _; omega, rfl, rfl, by omega, ?_⟩, by simp [intOf]⟩
            rw [unhide HE1, unhide HE2]
            exact HS1
    case rest =>
      obtain ⟨vr2, vl2, rfl, rfl, HR2⟩ := hcut
      obtain ⟨hwlt, ce0, ce1⟩ := unhide HEX wc (unhide HR2).2.2
      have hbW := (unhide HR2).2.2.size
      have hR2l : (A.take (i + 1)).reverse.length ≤ 500002 := by have := (unhide HRN 0).1; simpa using this
      have hL2l : ((A.take i).reverse.map (ahd t)).length ≤ 500002 := by have := (unhide HRN 0).2; simpa using this
      have HRF : Hid (ringOf A B i q = (A.take (i + 1)).reverse ++ B.take q) := rfl
      have HLF : Hid (linksOf t ⟨eA, eB⟩ A B i q = ((A.take i).reverse.map (ahd t) ++ [⟨eA, eB⟩]) ++ (B.take q).map fun x => (ahd t x).flip) := by show _ = _; unfold linksOf; simp
      generalize (A.take (i + 1)).reverse = R2 at HR2 hR2l HRF
      generalize (A.take i).reverse.map (ahd t) = L2 at HR2 hL2l HLF
      clear HRS HRN HR0 HLTA
      have hown := (unhide HR2).2.1
      unfold LkOwn at hown
      go_wp2_with (at_builtin; refine wpList_append_own _ rfl _ _ 76 rfl W1.heap.size 83 j0 (.agg #[.int .i64 0, .int .i64 0]) 2 16 Try.underlying76 hj0' hz0 hz1' hz2 rfl (by decide) _ L2.length _ rfl (hown.alloc _) ⟨wc.heap.size, 0, none⟩ 1 1 [.int .i64 (eA : Int), .int .i64 (eB : Int)] rfl rfl (World.news_of_block (heap_alloc_new wc _)) (by intro u hu; simp at hu; rcases hu with rfl | rfl <;> rfl) ?c1 ?c2 ?c3 ?_)
      case c1 => unfold maxLen; omega
      case c2 => omega
      case c3 => simp; omega
      intro v8 w8 hown8 hgrow8 _
      have h8 := (unhide HR2).link (x := ⟨eA, eB⟩) (below_new _ _) hgrow8 hown8
      have HR8 := hide h8
      have hL3l : (L2 ++ [(⟨eA, eB⟩ : Lk)]).length ≤ 1000003 := by rw [List.length_append]; simp; omega
      clear hown hown8 hgrow8 h8 HR2 ce0 ce1 hwlt hbW
      generalize L2 ++ [(⟨eA, eB⟩ : Lk)] = L3 at HR8 HLF hL3l
      have HBS1 : Hid (∀ j, j < nB → B.take (j + 1) = B.take j ++ [B.getD j 0]) := fun j hj => by
        have hl : j < B.length := by have := unhide HNB; omega
        rw [List.take_succ_eq_append_getElem hl, getD_at _ _ _ hl]
      have HBL : Hid (∀ j, j ≤ nB → (B.take j).length = j) := fun j hj => by rw [List.length_take]; have := unhide HNB; omega
      go_upto_block 4 with fail
      go_cut [10, 11] (fun vr vl wx => ∃ vr' vl', vr' = vr ∧ vl' = vl ∧ Hid (RL W1 wx vr' vl' (ringOf A B i q) (linksOf t ⟨eA, eB⟩ A B i q)))
      case first =>
        have HR9 : Hid (RL W1 w8 vr2 v8 (R2 ++ B.take 0) (L3 ++ (B.take 0).map fun x => (ahd t x).flip)) := by simpa using HR8
        go_wp2_with fail
        go_loopw [10, 11, 13] (fun vr vl jv wr => ∃ (j : Nat) (vr' vl' : Value), jv = .int .i64 (j : Int) ∧ vr' = vr ∧ vl' = vl ∧ j ≤ q ∧ Hid (RL W1 wr vr' vl' (R2 ++ B.take j) (L3 ++ (B.take j).map fun x => (ahd t x).flip))) (fun _ _ jv _ => q - (intOf jv).toNat)
        case atStart => exact ⟨0, _, _, rfl, rfl, rfl, Nat.zero_le _, HR9⟩
        case round =>
          obtain ⟨j, vr', vl', rfl, rfl, rfl, hj, HRL⟩ := hrel
          by_cases hlt : j < q
          · obtain ⟨gB, rfl, hgB, cr⟩ := unhide HCB wr (unhide HRL).2.2 j (by omega)
            have HTS := hide (unhide HBS1 j (by omega))
            have hbl := unhide HBL j (by omega)
            have hxN := unhide HLTB j (by omega)
            have hj0 : (0 : Int) ≤ (j : Int) := by omega
            have hj1 : (j : Int) < (nB : Int) := by omega
            have hjq : (j : Int) < (q : Int) := by omega
            have hbW := (unhide HRL).2.2.size
            generalize hXV : B.getD j 0 = x at cr HTS hxN
            have HXV := hide hXV
            clear hXV
            have l1 : (R2 ++ B.take j).length ≤ 3000000 := by rw [List.length_append]; omega
            have l2 : (L3 ++ (B.take j).map fun x => (ahd t x).flip).length ≤ 3000000 := by rw [List.length_append, List.length_map]; omega
            obtain ⟨RI, hRI⟩ : ∃ L, L = R2 ++ B.take j := ⟨_, rfl⟩
            obtain ⟨LI, hLI⟩ : ∃ L, L = L3 ++ (B.take j).map fun x => (ahd t x).flip := ⟨_, rfl⟩
            rw [← hRI] at HRL l1
            rw [← hLI] at HRL l2
            have HE1 : Hid (R2 ++ B.take (j + 1) = RI ++ [x]) := by show _ = _; rw [unhide HTS, hRI, List.append_assoc]
            have HE2 : Hid ((L3 ++ (B.take (j + 1)).map fun x => (ahd t x).flip) = LI ++ [(ahd t x).flip]) := by show _ = _; rw [unhide HTS, hLI, List.map_append, List.append_assoc]; rfl
            have hown := (unhide HRL).1
            unfold NaOwn at hown
            clear hRI hLI hbl HTS
            go_wp2_with (at_builtin; refine wpList_append_own _ rfl _ _ 27 rfl W1.heap.size 3 i0 (.int .i64 0) 1 8 Try.underlying27 hi0' hy0 hy1 hy2 rfl (by decide) _ _ _ rfl (hown.alloc _) ⟨wr.heap.size, 0, none⟩ 1 1 [.int .i64 (x : Int)] rfl rfl (cell_one_new _ _ _) (one_int _) ?c3 ?c4 ?c5 ?_)
            case c3 => unfold maxLen; omega
            case c4 => omega
            case c5 => simp; omega
            intro v7 w7 hown7 hgrow7 _
            have h7 := (unhide HRL).ring hgrow7 hown7
            have HR7 := hide h7
            clear hown hown7 hgrow7 cr h7 HRL
            obtain ⟨q1, hbtl, hgal, hq⟩ := unhide HAH w7 (unhide HR7).2.2
            obtain ⟨qf, qt⟩ := hq x hxN
            obtain ⟨gB3, eg, hg3, cr⟩ := unhide HCB w7 (unhide HR7).2.2 j (by omega)
            obtain rfl : gB = gB3 := by simpa using eg
            rw [unhide HXV] at cr
            have hbW7 := (unhide HR7).2.2.size
            generalize hahx : ahd t x = ax at qf qt HE2
            obtain ⟨xf, xt⟩ := ax
            simp only at qf qt
            obtain ⟨n, hNn⟩ : ∃ n, n = N.length := ⟨_, rfl⟩
            rw [← hNn] at q1 hxN
            have hx0 : (0 : Int) ≤ (x : Int) := by omega
            have hx1 : (x : Int) < (n : Int) := by omega
            clear hq eg hahx hNn
            go_wp2_with fail
            go_big_region
            obtain ⟨w9, hw9⟩ : ∃ W, W = (w7.alloc (Obj.cells #[.int .i64 (xf : Int), .int .i64 (xt : Int)] 83)).drew := ⟨_, rfl⟩
            rw [← hw9]
            have b9 : Below w7.heap.size w7 w9 := by rw [hw9]; exact (below_new _ _).drew
            have m9 : Blk w9 w7.heap.size #[.int .i64 (xf : Int), .int .i64 (xt : Int)] 83 := by rw [hw9]; exact Blk.new0.drew
            have k0 : w9.cell? ⟨w7.heap.size, 0, none⟩ = some (.int .i64 (xf : Int)) := m9.cell 0 _ rfl
            have k1 : w9.cell? ⟨w7.heap.size, 1, none⟩ = some (.int .i64 (xt : Int)) := m9.cell 1 _ rfl
            have hzm := m9.lt
            have h9 := (unhide HR7).below b9
            have HR9' := hide h9
            have hown := h9.2.1
            unfold LkOwn at hown
            have hbW9 := h9.2.2.size
            clear hw9 m9 h9 HR7 q1 qf qt cr b9
            go_wp2_with (at_builtin; refine wpList_append_own _ rfl _ _ 76 rfl W1.heap.size 83 j0 (.agg #[.int .i64 0, .int .i64 0]) 2 16 Try.underlying76 hj0' hz0 hz1' hz2 rfl (by decide) _ LI.length _ rfl (hown.alloc _) ⟨w9.heap.size, 0, none⟩ 1 1 [.int .i64 (xt : Int), .int .i64 (xf : Int)] rfl rfl (World.news_of_block (heap_alloc_new w9 _)) (by intro u hu; simp at hu; rcases hu with rfl | rfl <;> rfl) ?c1 ?c2 ?c3 ?_)
            case c1 => unfold maxLen; omega
            case c2 => omega
            case c3 => simp; omega
            intro v10 w10 hown10 hgrow10 _
            have h10 := (unhide HR9').link (x := ⟨xt, xf⟩) (below_new _ _) hgrow10 hown10
            have HR10 := hide h10
            clear hown hown10 hgrow10 h10 HR9' k0 k1
            go_wp2_with fail
            refine ⟨⟨j + 1, _, _, by go_num, rfl, rfl, by omega, ?_⟩, by simp [intOf]; omega⟩
            rw [unhide HE1, unhide HE2]
            exact HR10
          · obtain rfl : j = q := by omega
            have hjq : ¬ (j : Int) < (j : Int) := by omega
            have HF9 : Hid (RL W1 wr vr' vl' (ringOf A B i j) (linksOf t ⟨eA, eB⟩ A B i j)) := by rw [unhide HRF, unhide HLF]; exact HRL
            go_wp2_with fail
            go_meet
            exact ⟨_, _, rfl, rfl, HF9⟩
      case rest =>
        obtain ⟨vr3, vl3, rfl, rfl, HR3⟩ := hcut
        have hrl : (ringOf A B i q).length ≤ 1048576 := by rw [unhide HRF, List.length_append, unhide HBL q (by omega)]; omega
        have hll : (linksOf t ⟨eA, eB⟩ A B i q).length ≤ 3000000 := by rw [unhide HLF, List.length_append, List.length_map, unhide HBL q (by omega)]; omega
        have HMEM : Hid (∀ x ∈ ringOf A B i q, x < N.length) := unhide HMEM0
        clear HR8 HBS1 HBL HRF HLF HAH HCB HLTB HEX
        generalize ringOf A B i q = RG at *
        generalize linksOf t ⟨eA, eB⟩ A B i q = LG at *
        obtain ⟨aR, cR, eR⟩ := na_slice (unhide HR3).1
        subst eR
        obtain ⟨aL, cL, eL⟩ := lk_slice (unhide HR3).2.1
        subst eL
        obtain ⟨W3, hW3⟩ : ∃ W, W = wc := ⟨_, rfl⟩
        subst hW3
        obtain ⟨aM, cM, eM⟩ := lk_slice (unhide HRUN).ms
        have HMC : Hid (∀ W, Fresh w W → b < W.heap.size ∧ W.cell? ⟨b, 4, none⟩ = some (.slice aM M.length cM) ∧ ∀ j, j < M.length → ∃ g, aM = some ⟨g, 0, none⟩ ∧ g < W.heap.size ∧ W.cell? ⟨g, j * 2, none⟩ = some (.int .i64 ((M.getD j ⟨0, 0⟩).f : Int)) ∧ W.cell? ⟨g, j * 2 + 1, none⟩ = some (.int .i64 ((M.getD j ⟨0, 0⟩).t : Int))) := fun W hF => by
          have hr := (unhide HRUN).below hF hlo
          have h4 := hr.box.cell 4 _ rfl
          rw [eM] at h4
          refine ⟨hr.box.lt, h4, fun j hj => ?_⟩
          obtain ⟨g, c, e, hg, hc⟩ := lk_cellsD hr.ms (by omega)
          rw [eM] at e
          simp at e
          exact ⟨g, e.1, hg, hc j hj⟩
        have HKS := hide (fun j h => keepM_snoc N RG M j h)
        have HKL := hide (fun j => keepM_len N RG M j)
        have HKE : Hid (keepM N RG (M.take M.length) = keepM N RG M) := by show _ = _; rw [List.take_length]
        have HK0 : Hid (keepM N RG (M.take 0) = []) := rfl
        have HTF : Hid (∀ W, Fresh w W → ∀ j, j < M.length → Calls Try.prog 73 #[.pointer (some ⟨b, 0, none⟩), .int .i64 ((M.getD j ⟨0, 0⟩).f : Int)] W (fun e w' => e = .returned (.int .i64 (top N (M.getD j ⟨0, 0⟩).f : Int)) ∧ w' = W) ∧ Calls Try.prog 73 #[.pointer (some ⟨b, 0, none⟩), .int .i64 ((M.getD j ⟨0, 0⟩).t : Int)] W fun e w' => e = .returned (.int .i64 (top N (M.getD j ⟨0, 0⟩).t : Int)) ∧ w' = W) := fun W hF j hj => by
          have hm : M.getD j ⟨0, 0⟩ ∈ M := by rw [getD_at _ _ _ hj]; exact List.getElem_mem hj
          exact ⟨unhide HTT W hF _ (unhide HE _ (mem_ends.2 ⟨_, hm, .inl rfl⟩)), unhide HTT W hF _ (unhide HE _ (mem_ends.2 ⟨_, hm, .inr rfl⟩))⟩
        have HIR : Hid (∀ W, Below W3.heap.size W3 W → ∀ x : Nat, Calls Try.prog 44 #[.slice aR RG.length cR, .int .i64 (x : Int)] W fun e w' => e = .returned (.bool (decide (x ∈ RG))) ∧ w' = W) := fun W hb x => by
          rw [← inK_nat]
          exact l03In_any aR RG.length cR W.heap.size (natI RG) (x : Int) (by omega) W (na_ints (own_below (unhide HR3).1 hb) rfl)
        have HFC : Hid (∀ W, Below W3.heap.size W3 W → Fresh w W) := fun W hb => unhide HFW W ((unhide HR3).2.2.trans (hb.mono (unhide HR3).2.2.size))
        have hzc : W1.heap.size ≤ W3.heap.size := (unhide HR3).2.2.size
        obtain ⟨nM, hnM⟩ : ∃ n, n = M.length := ⟨_, rfl⟩
        have HNM := hide hnM
        rw [← hnM] at HMC HKE HTF hM
        clear hnM HTT HFW eM
        go_upto_block 6 with fail
        obtain ⟨X4, hX4⟩ : ∃ W, W = W3.alloc (Obj.cells #[] 83) := ⟨_, rfl⟩
        rw [← hX4]
        have HI0 : Hid (LkOwn X4 W3.heap.size (.slice (some ⟨W3.heap.size, 0, none⟩) 0 0) (keepM N RG (M.take 0))) := by
          show World.ownsRow _ _ _ _ _ _ _
          rw [unhide HK0, hX4]
          exact World.ownsRow_made W3 #[] 0 (Nat.le_refl _) (Nat.zero_le _) rfl
        have HX4 : Hid (Below W3.heap.size W3 X4) := by show Below _ _ _; rw [hX4]; exact below_new _ _
        clear hX4
        go_cut [15] (fun vi wx => ∃ vi', vi' = vi ∧ Hid (LkOwn wx W3.heap.size vi' (keepM N RG M)) ∧ Hid (Below W3.heap.size W3 wx))
        case first =>
          go_wp2_with fail
          go_loopw [15, 16] (fun vi jv wr => ∃ (j : Nat) (vi' : Value), jv = .int .i64 (j : Int) ∧ vi' = vi ∧ j ≤ nM ∧ Hid (LkOwn wr W3.heap.size vi' (keepM N RG (M.take j))) ∧ Hid (Below W3.heap.size W3 wr)) (fun _ jv _ => nM - (intOf jv).toNat)
          case atStart => exact ⟨0, _, rfl, rfl, Nat.zero_le _, HI0, HX4⟩
          case round =>
            obtain ⟨j, vi', rfl, rfl, hj, HO, HB⟩ := hrel
            obtain ⟨hbl, c4, hrow⟩ := unhide HMC wr (unhide HFC wr (unhide HB))
            have hzr := (unhide HB).size
            by_cases hlt : j < nM
            · obtain ⟨gM, rfl, hgM, d0, d1⟩ := hrow j hlt
              obtain ⟨t1, t2⟩ := unhide HTF wr (unhide HFC wr (unhide HB)) j hlt
              have IF := hide (unhide HIR wr (unhide HB) (top N (M.getD j ⟨0, 0⟩).f))
              have IT := hide (unhide HIR wr (unhide HB) (top N (M.getD j ⟨0, 0⟩).t))
              have TF := hide t1
              have TTt := hide t2
              have HS := hide (unhide HKS j (by have := unhide HNM; omega))
              have hkl := unhide HKL j
              have hj0 : (0 : Int) ≤ (j : Int) := by omega
              have hj1 : (j : Int) < (nM : Int) := by omega
              generalize hmx : M.getD j ⟨0, 0⟩ = mx at d0 d1 IF IT TF TTt HS
              obtain ⟨xf, xt⟩ := mx
              simp only at d0 d1 IF IT TF TTt HS
              generalize hdf : decide (top N xf ∈ RG) = df at IF HS
              generalize hdt : decide (top N xt ∈ RG) = dt at IT HS
              generalize (top N xf : Int) = tf at IF TF
              generalize (top N xt : Int) = tt at IT TTt
              generalize hKI : keepM N RG (M.take j) = KI at HO HS hkl
              have hown := unhide HO
              unfold LkOwn at hown
              clear hrow t1 t2 hmx hdf hdt hKI
              have skip : Hid (df = true → dt = true → LkOwn wr W3.heap.size vi' (keepM N RG (M.take (j + 1)))) := fun h1 h2 => by
                rw [unhide HS, h1, h2]
                simpa using unhide HO
              have keep : Hid ((df && dt) = false → keepM N RG (M.take (j + 1)) = KI ++ [⟨xf, xt⟩]) := fun h1 => by
                rw [unhide HS, h1]
                rfl
              clear HS
              cases df with
              | true =>
                cases dt with
                | true =>
                  have HO2 := hide (unhide skip rfl rfl)
                  clear skip keep hown
                  go_wp2_with fail
                  refine (unhide TF).mono ?_
                  rintro e w5 ⟨rfl, rfl⟩
                  go_wp2_with fail
                  refine (unhide IF).mono ?_
                  rintro e w6 ⟨rfl, rfl⟩
                  go_wp2_with fail
                  refine (unhide TTt).mono ?_
                  rintro e w7 ⟨rfl, rfl⟩
                  go_wp2_with fail
                  refine (unhide IT).mono ?_
                  rintro e w8 ⟨rfl, rfl⟩
                  go_wp2_with fail
                  exact ⟨⟨j + 1, _, by go_num, rfl, by omega, HO2, HB⟩, by simp [intOf]; omega⟩
                | false =>
                  have HE2 := hide (unhide keep rfl)
                  clear skip keep
                  go_wp2_with fail
                  refine (unhide TF).mono ?_
                  rintro e w5 ⟨rfl, rfl⟩
                  go_wp2_with fail
                  refine (unhide IF).mono ?_
                  rintro e w6 ⟨rfl, rfl⟩
                  go_wp2_with fail
                  refine (unhide TTt).mono ?_
                  rintro e w7 ⟨rfl, rfl⟩
                  go_wp2_with fail
                  refine (unhide IT).mono ?_
                  rintro e w8 ⟨rfl, rfl⟩
                  go_wp2_with (at_builtin; refine wpList_append_own _ rfl _ _ 76 rfl W3.heap.size 83 j0 (.agg #[.int .i64 0, .int .i64 0]) 2 16 Try.underlying76 hj0' hz0 hz1' hz2 rfl (by decide) _ KI.length _ rfl (hown.alloc _) ⟨w8.heap.size, 0, none⟩ 1 1 [.int .i64 (xf : Int), .int .i64 (xt : Int)] rfl rfl (World.news_of_block (heap_alloc_new w8 _)) (by intro u hu; simp at hu; rcases hu with rfl | rfl <;> rfl) ?c1 ?c2 ?c3 ?_)
                  case c1 => unfold maxLen; omega
                  case c2 => omega
                  case c3 => simp; omega
                  intro v10 w10 hown10 hgrow10 _
                  have HB10 := hide (below_append (unhide HB) (Nat.le_refl _) hown hgrow10)
                  have HO10 : Hid (LkOwn w10 W3.heap.size v10 (keepM N RG (M.take (j + 1)))) := by
                    show World.ownsRow _ _ _ _ _ _ _
                    rw [unhide HE2, lksV_snoc, List.length_append]
                    exact hown10
                  clear hown hown10 hgrow10 d0 d1 c4
                  go_wp2_with fail
                  exact ⟨⟨j + 1, _, by go_num, rfl, by omega, HO10, HB10⟩, by simp [intOf]; omega⟩
              | false =>
                have HE2 := hide (unhide keep (by simp))
                clear skip keep
                go_wp2_with fail
                refine (unhide TF).mono ?_
                rintro e w5 ⟨rfl, rfl⟩
                go_wp2_with fail
                refine (unhide IF).mono ?_
                rintro e w8 ⟨rfl, rfl⟩
                go_wp2_with (at_builtin; refine wpList_append_own _ rfl _ _ 76 rfl W3.heap.size 83 j0 (.agg #[.int .i64 0, .int .i64 0]) 2 16 Try.underlying76 hj0' hz0 hz1' hz2 rfl (by decide) _ KI.length _ rfl (hown.alloc _) ⟨w8.heap.size, 0, none⟩ 1 1 [.int .i64 (xf : Int), .int .i64 (xt : Int)] rfl rfl (World.news_of_block (heap_alloc_new w8 _)) (by intro u hu; simp at hu; rcases hu with rfl | rfl <;> rfl) ?c1 ?c2 ?c3 ?_)
                case c1 => unfold maxLen; omega
                case c2 => omega
                case c3 => simp; omega
                intro v10 w10 hown10 hgrow10 _
                have HB10 := hide (below_append (unhide HB) (Nat.le_refl _) hown hgrow10)
                have HO10 : Hid (LkOwn w10 W3.heap.size v10 (keepM N RG (M.take (j + 1)))) := by
                  show World.ownsRow _ _ _ _ _ _ _
                  rw [unhide HE2, lksV_snoc, List.length_append]
                  exact hown10
                clear hown hown10 hgrow10 d0 d1 c4
                go_wp2_with fail
                exact ⟨⟨j + 1, _, by go_num, rfl, by omega, HO10, HB10⟩, by simp [intOf]; omega⟩
            · obtain rfl : j = nM := by omega
              have hj1 : ¬ (j : Int) < (j : Int) := by omega
              have HO2 : Hid (LkOwn wr W3.heap.size vi' (keepM N RG M)) := by rw [← unhide HKE]; exact HO
              clear hrow
              go_wp2_with fail
              go_meet
              exact ⟨_, rfl, HO2, HB⟩
        case rest =>
          obtain ⟨vi4, rfl, HI4, HB4⟩ := hcut
          obtain ⟨aI, cI, eI⟩ := lk_slice (unhide HI4)
          subst eI
          have hF4 := unhide HFC wc (unhide HB4)
          have hbW4 : Below W1.heap.size W1 wc := (unhide HR3).2.2.trans ((unhide HB4).mono (unhide HR3).2.2.size)
          obtain ⟨gA4, eg, hg4, cr⟩ := unhide HCA wc hbW4 i hi
          obtain rfl : gA = gA4 := by simpa using eg
          rw [← unhide HP_] at cr
          have BS := hide (unhide HBS wc hF4)
          obtain ⟨X, hX⟩ : ∃ x : Nd, x = ⟨RG, LG, baseOf N M p, 0, -1, false⟩ := ⟨_, rfl⟩
          have HRX : Hid (R = (setUps (N ++ [X]) RG (N.length : Int), keepM N RG M)) := by show _ = _; rw [hX]; exact unhide HRR
          have hXb : X.base = baseOf N M p := by rw [hX]
          have HX1 : Hid (X.ring = RG ∧ X.links = LG ∧ X.z = 0 ∧ X.up = -1 ∧ X.gone = false) := by rw [hX]; exact ⟨rfl, rfl, rfl, rfl, rfl⟩
          generalize baseOf N M p = bs at BS hXb
          generalize keepM N RG M = KM at HI4 HRX
          clear hX eg HRR HKS HKL HKE HK0 HTF HIR HMC HI0 HX4 HCA HPLC
          go_wp2_with fail
          refine (unhide BS).mono ?_
          rintro e w5 ⟨rfl, hb5⟩
          have hF5 : Fresh w w5 := hF4.below hb5
          have o5 : LkOwn w5 w.heap.size (.slice aI KM.length cI) KM := own_lower (by omega) (own_below (unhide HI4) hb5)
          have b35 : Below W3.heap.size W3 w5 := (unhide HB4).trans (hb5.mono (unhide HB4).size)
          have oR5 : NaOwn w5 W1.heap.size (.slice aR RG.length cR) RG := own_below (unhide HR3).1 b35
          have oL5 : LkOwn w5 W1.heap.size (.slice aL LG.length cL) LG := own_below (unhide HR3).2.1 b35
          have box5 := ((unhide HRUN).below hF5 hlo).box
          obtain ⟨r1, r2⟩ := (unhide HRUN).setM hlo hF5 o5
          have q4 : w5.cell? ⟨b, 4, none⟩ = some vv.m := box5.cell 4 _ rfl
          have fz4 := box5.froz 4
          obtain ⟨am, cm, em⟩ := lk_slice (unhide HRUN).ms
          rw [em] at q4
          obtain ⟨Y5, hY5⟩ : ∃ W, W = w5.setCell ⟨b, 4, none⟩ (.slice aI KM.length cI) := ⟨_, rfl⟩
          rw [← hY5] at r1 r2
          have kY : Kept (fun i => i = b) w5 Y5 := by rw [hY5]; exact Kept.set _ _ _ _ rfl
          have alY : ∀ e : TypeId, (78 : Nat) ≠ e → ∀ i, i = b → Alien w5 i e := fun e he i hi => by subst hi; exact box5.alien he
          have oR6 : NaOwn Y5 W1.heap.size (.slice aR RG.length cR) RG := kY.own_alien oR5 (alY _ run_types.1)
          have oL6 : LkOwn Y5 W1.heap.size (.slice aL LG.length cL) LG := kY.own_alien oL5 (alY _ run_types.2.2.1)
          have dR : ∀ g, (Value.slice aR RG.length cR).ownBlock = some g → vv.y.ownBlock ≠ some g := fun g hg hy => by
            have h1 := (World.ownsRow.lt oR5 g hg).1
            have h2 := (World.ownsRow.lt (unhide HRUN).ys g hy).2
            omega
          have dL : ∀ g, (Value.slice aL LG.length cL).ownBlock = some g → (Value.slice aI KM.length cI).ownBlock ≠ some g := fun g hg hy => by
            have h1 := (World.ownsRow.lt (unhide HR3).2.1 g hg).2
            have h2 := (World.ownsRow.lt (unhide HI4) g hy).1
            omega
          have hloY : lo ≤ Y5.heap.size := Nat.le_trans hlo r2.2.2.2.1
          have hwY : w.heap.size ≤ Y5.heap.size := r2.2.2.2.1
          obtain ⟨gN, cN, eN, hgNlo, hgN, c3, _⟩ := r1.node hN0
          simp only at eN
          have HRY := hide r1
          have HY5 := hide hY5
          have HKY := hide r2
          have HoR := hide oR6
          have HoL := hide oL6
          have HdR := hide dR
          have HdL := hide dL
          have HEN := hide eN
          clear o5 oR5 oL5 box5 b35 hb5 em r1 r2 hY5 kY alY oR6 oL6 dR dL eN hF4 hbW4 cr
          go_upto_region 29 with fail
          rw [← unhide HY5]
          clear HY5 q4 fz4
          obtain ⟨k0, hk0', hn0, hn1, hn2⟩ := info_parts info_node
          have hownN : Y5.ownsRow lo 102 6 (.slice (some ⟨gN, 0, none⟩) N.length cN) N.length (ndsV vv.rs vv.ls N) := by
            have := (unhide HRY).ns
            simp only at this
            rw [unhide HEN] at this
            exact this
          have hbY := (unhide HRY).box.lt
          go_wp2_with (at_builtin; refine wpList_append_own _ rfl _ _ 75 rfl lo 102 k0 (.agg #[.slice none 0 0, .slice none 0 0, .int .i64 0, .int .i64 0, .int .i64 0, .bool false]) 6 80 Try.underlying75 hk0' hn0 hn1 hn2 rfl (by decide) _ N.length _ rfl (hownN.alloc _) ⟨Y5.heap.size, 0, none⟩ 1 1 [.slice aR RG.length cR, .slice aL LG.length cL, .int .i64 (bs : Int), .int .i64 0, .int .i64 (-1), .bool false] rfl rfl (World.news_of_block (heap_alloc_new Y5 _)) (by intro u hu; simp at hu; rcases hu with rfl | rfl | rfl | rfl | rfl | rfl <;> rfl) ?c1 ?c2 ?c3 ?_)
          case c1 => unfold maxLen; omega
          case c2 => omega
          case c3 => simp; omega
          intro v11 w11 hown11 hgrow11 _
          obtain ⟨gP, cP, eP⟩ : ∃ g c, v11 = .slice (some ⟨g, 0, none⟩) (N.length + 1) c := by
            rename_i hnil
            rcases hown11.2 with ⟨h, _⟩ | ⟨g, cap, cur, e, _⟩
            · exact absurd h hnil
            · exact ⟨g, cap, e⟩
          subst eP
          obtain ⟨f1, f2, f3, f4, f5⟩ := unhide HX1
          have hg11 := hgrow11
          obtain ⟨s1, s2⟩ := (unhide HRY).appN (x := X) (vR := .slice aR RG.length cR) (vL := .slice aL LG.length cL) hloY (below_new Y5 _) (by simp only; rw [unhide HEN]; exact hgrow11) (by rw [hXb, f3, f4, f5]; exact hown11) (by rw [f1]; exact own_lower (show lo ≤ W1.heap.size by omega) (own_below (unhide HoR) (below_new _ _))) (by rw [f2]; exact own_lower (show lo ≤ W1.heap.size by omega) (own_below (unhide HoL) (below_new _ _))) (unhide HdR) (unhide HdL)
          have box11 := ((unhide HRY).box.below (below_new Y5 (Obj.cells #[.slice aR RG.length cR, .slice aL LG.length cL, .int .i64 (bs : Int), .int .i64 0, .int .i64 (-1), .bool false] 102))).kept_alien (Kept.of_grown hgrow11) (own_alien (own_below hownN (below_new Y5 _)) (run_types.2.1).symm)
          have q3 := box11.cell 3 _ rfl
          have fz3 := box11.froz 3
          rw [unhide HEN] at q3
          obtain ⟨VV, hVV⟩ : ∃ V : Vs, V = { vv with m := .slice aI KM.length cI, n := .slice (some ⟨gP, 0, none⟩) (N.length + 1) cP, rs := vv.rs ++ [.slice aR RG.length cR], ls := vv.ls ++ [.slice aL LG.length cL] } := ⟨_, rfl⟩
          have hVN : VV.n = .slice (some ⟨gP, 0, none⟩) (N.length + 1) cP := by rw [hVV]
          rw [show ({ vv with m := .slice aI KM.length cI, n := .slice (some ⟨gP, 0, none⟩) (N.length + 1) cP, rs := vv.rs ++ [.slice aR RG.length cR], ls := vv.ls ++ [.slice aL LG.length cL] } : Vs) = VV from hVV.symm] at s1
          obtain ⟨Y6, hY6⟩ : ∃ W, W = w11.setCell ⟨b, 3, none⟩ (.slice (some ⟨gP, 0, none⟩) (N.length + 1) cP) := ⟨_, rfl⟩
          rw [← hY6] at s1 s2
          have hrlen : vv.rs.length = N.length := (unhide HRUN).rl
          have oR7 : NaOwn Y6 lo (.slice aR RG.length cR) RG := by
            have h := s1.rings N.length (by simp) (by rw [hVV]; simp [hrlen])
            simp only [hVV] at h
            rw [List.getElem_append_right (by rw [hrlen]; exact Nat.le_refl _), List.getElem_append_right (Nat.le_refl _)] at h
            simp only [hrlen, Nat.sub_self, List.getElem_cons_zero] at h
            rw [f1] at h
            exact h
          have hblo := (unhide HRUN).blo
          have bw5 : Below lo w Y5 := (unhide HKY).below hlo (fun i hi => by omega)
          have bY6 : Below lo Y5 Y6 := s2.below hloY (fun i hi => by
            rcases hi with hi | hi
            · omega
            · simp only at hi
              rw [unhide HEN] at hi
              simp [Value.ownBlock] at hi
              omega)
          have bw6 : Below lo w Y6 := bw5.trans bY6
          have HS1 : Hid (RunAt Y6 b lo aQ cQ s Q y (setUps (N ++ [X]) (RG.take 0) (N.length : Int)) KM k d VV) := s1
          have HO7 := hide oR7
          have HY6 := hide hY6
          have HVN := hide hVN
          have HB6 := hide bw6
          have hz6 : lo ≤ Y6.heap.size := Nat.le_trans hlo bw6.size
          have HUS := hide (fun j h => setUps_next (N ++ [X]) RG (N.length : Int) j h)
          have HUL : Hid (∀ j, (setUps (N ++ [X]) (RG.take j) (N.length : Int)).length = N.length + 1) := fun j => by rw [setUps_length]; simp
          have HUE : Hid (setUps (N ++ [X]) (RG.take RG.length) (N.length : Int) = setUps (N ++ [X]) RG (N.length : Int)) := by show _ = _; rw [List.take_length]
          clear hg11 s1 s2 box11 hVV hY6 oR7 bw5 bY6 bw6 hVN hown11 hgrow11 hownN HRY HKY HoR HoL HdR HdL HEN HX1 f1 f2 f3 f4 f5 hXb c3
          go_upto_block 8 with fail
          rw [← unhide HY6]
          clear HY6 q3 fz3
          obtain ⟨nR, hnR⟩ : ∃ n, n = RG.length := ⟨_, rfl⟩
          rw [← hnR] at HUE HO7 hrl ⊢
          have HNR := hide hnR
          clear hnR
          go_wp2_with fail
          go_loopw [18] (fun jv wr => ∃ j : Nat, jv = .int .i64 (j : Int) ∧ j ≤ nR ∧ Hid (RunAt wr b lo aQ cQ s Q y (setUps (N ++ [X]) (RG.take j) (N.length : Int)) KM k d VV) ∧ Hid (NaOwn wr lo (.slice aR nR cR) RG) ∧ Hid (Below lo w wr) ∧ lo ≤ wr.heap.size) (fun jv _ => nR - (intOf jv).toNat)
          case atStart => exact ⟨0, rfl, Nat.zero_le _, HS1, HO7, HB6, hz6⟩
          case round =>
            obtain ⟨j, rfl, hj, HR, HO, HB, hzr⟩ := hrel
            by_cases hlt : j < nR
            · obtain ⟨gR, cR', eR', hgR, hcR⟩ := na_cells (unhide HO) (by have := unhide HNR; omega)
              simp at eR'
              obtain ⟨rfl, _, rfl⟩ := eR'
              have cr := hcR j (by have := unhide HNR; omega)
              have hxm : RG.getD j 0 < N.length := unhide HMEM _ (by have := unhide HNR; rw [getD_at _ _ _ (by omega)]; exact List.getElem_mem _)
              have HS := hide (unhide HUS j (by have := unhide HNR; omega))
              have hul := unhide HUL j
              generalize RG.getD j 0 = x at cr hxm HS
              generalize setUps (N ++ [X]) (RG.take j) (N.length : Int) = N2 at HR HS hul
              obtain ⟨gP2, cP2, eP2, _, hgP, c3, hc⟩ := (unhide HR).node (by omega)
              rw [unhide HVN, hul] at eP2
              simp at eP2
              obtain ⟨rfl, rfl⟩ := eP2
              rw [hul] at c3
              have hv2 : VV.n = .slice (some ⟨gP, 0, none⟩) N2.length cP := by rw [hul]; exact unhide HVN
              have cu := (hc x (by omega)).2.2.2.2.1
              have fu := (unhide HR).froz hv2 (x * 6 + 4)
              have hbr := (unhide HR).box.lt
              obtain ⟨s1, s2⟩ := (unhide HR).setUp hzr hv2 (show x < N2.length by omega) (N.length : Int)
              have HS1 := hide s1
              have HO1 := hide (s2.own_alien (unhide HO) (fun i hi => by rw [hi]; exact own_alien (by have := (unhide HR).ns; rw [unhide HVN] at this; exact this) run_types.2.2.2.1 gP rfl))
              have HB1 := hide ((unhide HB).trans (s2.below hzr (fun i hi => by omega)))
              have hj0 : (0 : Int) ≤ (j : Int) := by omega
              have hj1 : (j : Int) < (nR : Int) := by omega
              have hx0 : (0 : Int) ≤ (x : Int) := by omega
              obtain ⟨n, hNn⟩ : ∃ n, n = N.length := ⟨_, rfl⟩
              rw [← hNn] at c3 hxm HS1 HO1 HB1 hn5 hul
              have HNn := hide hNn
              have hx1 : (x : Int) < ((n + 1 : Nat) : Int) := by omega
              have hx2 : (x : Int) < (n : Int) + 1 := by omega
              have hwn : IntKind.i64.wrap ((n : Int) + 1 - 1) = (n : Int) := by rw [show (n : Int) + 1 - 1 = (n : Int) by omega]; exact IntWalk.i64_in _ ⟨by omega, by omega⟩
              generalize upA N2 x = ux at cu
              clear s1 s2 hc hv2 hcR hNn
              go_wp2_with fail
              go_big_region
              all_goals
                go_wp2_with fail
                refine ⟨⟨j + 1, by go_num, by omega, ?_, ?_, ?_, ?_⟩, by simp [intOf]; omega⟩
                · show RunAt _ _ _ _ _ _ _ _ _ _ _ _ _
                  rw [unhide HS, ← unhide HNn]
                  exact (unhide HS1).below (Below.refl _ _).drew (by simp [World.setCell]; omega)
                · exact own_below (unhide HO1) (Below.refl _ _).drew
                · exact (unhide HB1).drew
                · simp [World.setCell]; exact hzr
            · obtain rfl : j = nR := by omega
              have hj1 : ¬ (j : Int) < (j : Int) := by omega
              have HF1 : Hid (RunAt wr b lo aQ cQ s Q y R.1 R.2 k d VV) := by
                show RunAt _ _ _ _ _ _ _ _ _ _ _ _ _
                rw [unhide HRX, ← unhide HUE]
                exact unhide HR
              clear HR HO
              go_wp2_with fail
              go_end0
              exact ⟨rfl, ⟨_, unhide HF1⟩, unhide HB⟩
end
end Sv
end Go.Proofs.Ytkjclkelnheheaa
