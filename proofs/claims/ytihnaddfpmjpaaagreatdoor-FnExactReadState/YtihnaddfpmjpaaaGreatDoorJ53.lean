/-
 CyR3, CyR4, CyS, CyS1, CyL.
-/
import Derived.Test.YtihnaddfpmjpaaaGreatDoorJ52
import Derived.Test.YtihnaddfpmjpaaaGreatDoorJ25
import Derived.Test.YtihnaddfpmjpaaaGreatDoorJ2
import Derived.Test.YtihnaddfpmjpaaaGreatDoorJ44
import Derived.Test.YtihnaddfpmjpaaaGreatDoorJ50
import Derived.Test.YtihnaddfpmjpaaaGreatDoorJ49
import Derived.Test.YtihnaddfpmjpaaaGreatDoorJ48
import Derived.Deep.DeepCutAuto
import Derived.Deep.CutBlock
import Derived.Test.YtihnaddfpmjpaaaGreatDoorJ32
namespace Go.Proofs.YtihnaddfpmjpaaaGreatDoor
namespace Cy
open Go.RowKit
open Gr (Blk Kept Grown wp_region_grown)
def RdI (w : World) (b : Nat) (s : ByteArray) (a : Nat) : Prop := Blk w b #[.string s, .int .i64 (a : Int), .func (.func 92) #[] #[]] 118
set_option maxRecDepth 100000 in
set_option maxHeartbeats 4000000 in
theorem nextI_any (s : ByteArray) (a b : Nat) (ea : Addr) (hs : s.size ≤ 1048576) (hb0 : 0 < b) (w : World) (hR : RdI w b s a) (hE : ErrIs w ea) :
    Calls Tryz.prog 93 #[.pointer (some ⟨b, 0, none⟩)] w fun e w' => (match readA s (a : Int) with | none => e = .returned (.tuple #[.int .i64 0, .iface 250 (.pointer (some ea))]) ∧ RdI w' b s a | some q => e = .returned (.tuple #[.int .i64 (q.1 : Int), .nilIface]) ∧ RdI w' b s q.2) ∧ Kept (fun k => k = b) w w' := by
  have RV := hide (fun w => implRead_any s (a : Int) (by omega) w)
  have hbl : b < w.heap.size := Gr.Blk.lt hR
  have c0 : w.cell? ⟨b, 0, none⟩ = some (.string s) := Gr.Blk.cell hR 0 _ rfl
  have c1 : w.cell? ⟨b, 1, none⟩ = some (.int .i64 (a : Int)) := Gr.Blk.cell hR 1 _ rfl
  have c2 : w.cell? ⟨b, 2, none⟩ = some (.func (.func 92) #[] #[]) := Gr.Blk.cell hR 2 _ rfl
  have k0 : ∀ d : Grown w.heap.size w, d.w.cell? ⟨b, 0, none⟩ = some (.string s) := fun d => d.cell hbl c0
  have k1 : ∀ d : Grown w.heap.size w, d.w.cell? ⟨b, 1, none⟩ = some (.int .i64 (a : Int)) := fun d => d.cell hbl c1
  have k2 : ∀ d : Grown w.heap.size w, d.w.cell? ⟨b, 2, none⟩ = some (.func (.func 92) #[] #[]) := fun d => d.cell hbl c2
  have HR := hide hR
  have HE := hide hE
  clear c0 c1 c2 hR hE
  cases hq : readA s (a : Int) with
  | none =>
    have RN : Hid (∀ w, Calls Tryz.prog 92 #[.string s, .int .i64 (a : Int)] w fun e w' => e = .returned (.tuple #[.int .i64 0, .int .i64 0, .bool false]) ∧ Below w.heap.size w w') := fun w => by
      have h := unhide RV w
      rw [hq] at h
      exact h
    simp only
    clear RV hq
    go_enter Tryz.func93, Tryz.ntmps93
    go_wp2_with fail
    refine wp_region_grown w.heap.size (by kernel_rfl) (by kernel_rfl) ?_
    repeat (go_big_quiet_step (first | (go_at_call 92; exact Gr.Calls.grown (Nat.le_refl _) (unhide RN _))))
    refine wpQuiet_nil ?_
    rintro w5 ⟨d5, rfl⟩
    have hb5 := d5.below
    have e5 : d5.w.cell? ⟨0, 0, none⟩ = some (.iface 250 (.pointer (some ea))) := ErrIs.below (unhide HE) hb5 (by omega)
    have HR5 : Hid (RdI d5.w b s a) := Gr.Blk.below (unhide HR) hb5
    have HK5 : Hid (Kept (fun k => k = b) w d5.w) := Kept.of_below hb5
    clear k0 k1 k2 hb5 HR HE
    generalize d5.w = W5 at e5 HR5 HK5 ⊢
    go_wp2_with fail
    go_quiet (fail)
    go_wp2
    go_ret2
    exact ⟨⟨rfl, unhide HR5⟩, unhide HK5⟩
  | some q =>
    obtain ⟨qn, qe⟩ := q
    have RN : Hid (∀ w, Calls Tryz.prog 92 #[.string s, .int .i64 (a : Int)] w fun e w' => e = .returned (.tuple #[.int .i64 (qn : Int), .int .i64 (qe : Int), .bool true]) ∧ Below w.heap.size w w') := fun w => by
      have h := unhide RV w
      rw [hq] at h
      exact h
    simp only
    clear RV hq
    go_enter Tryz.func93, Tryz.ntmps93
    go_wp2_with fail
    refine wp_region_grown w.heap.size (by kernel_rfl) (by kernel_rfl) ?_
    repeat (go_big_quiet_step (first | (go_at_call 92; exact Gr.Calls.grown (Nat.le_refl _) (unhide RN _))))
    refine wpQuiet_nil ?_
    rintro w5 ⟨d5, rfl⟩
    have hb5 := d5.below
    have hr5 : RdI d5.w b s a := Gr.Blk.below (unhide HR) hb5
    have r9 : d5.w.cell? ⟨b, 1, none⟩ = some (.int .i64 (a : Int)) := Gr.Blk.cell hr5 1 _ rfl
    have f9 := Gr.Blk.froz hr5 1
    have HR5 : Hid (RdI (d5.w.setCell ⟨b, 1, none⟩ (.int .i64 (qe : Int))) b s qe) := Gr.Blk.set hr5 1 (.int .i64 (qe : Int))
    have HK5 : Hid (Kept (fun k => k = b) w (d5.w.setCell ⟨b, 1, none⟩ (.int .i64 (qe : Int)))) := Kept.trans (Kept.of_below hb5) (Kept.set (S := fun k => k = b) _ _ _ _ rfl)
    clear k0 k1 k2 hb5 HR HE hr5
    generalize d5.w = W5 at r9 f9 HR5 HK5 ⊢
    go_wp2_with fail
    go_ret2
    exact ⟨⟨rfl, unhide HR5⟩, unhide HK5⟩
set_option maxRecDepth 100000 in
theorem atEnd_any (s : ByteArray) (a b : Nat) (w : World) (hR : RdBox w b s a) :
    Calls Tryz.prog 97 #[.pointer (some ⟨b, 0, none⟩)] w fun e w' => e = .returned (.bool (decide ((a : Int) = (s.size : Int)))) ∧ Below w.heap.size w w' := by
  have c0 : w.cell? ⟨b, 0, none⟩ = some (.string s) := Gr.Blk.cell hR 0 _ rfl
  have c1 : w.cell? ⟨b, 1, none⟩ = some (.int .i64 (a : Int)) := Gr.Blk.cell hR 1 _ rfl
  clear hR
  go_enter Tryz.func97, Tryz.ntmps97
  go_wp2_with fail
  go_quiet (fail)
  go_wp2
  go_ret
  exact ⟨rfl, below_drewN (Below.refl _ _) _⟩
theorem allF_tot (s : ByteArray) : ∀ (f a : Nat), a ≤ s.size → Tr.totP (allF s f a).1 + a ≤ (allF s f a).2
  | 0, a, _ => by simp [allF, Tr.totP]
  | f + 1, a, h => by
    unfold allF
    cases hr : rdP s a with
    | none => simp [Tr.totP]
    | some q =>
      obtain ⟨_, h2, _, h4⟩ := rdP_text hr
      have ih := allF_tot s f q.2 h2
      unfold Tr.totP at ih ⊢
      simp only [List.map_cons, List.sum_cons]
      omega
theorem tot_in : ∀ (L : Rg.PL) (n : Nat), Tr.totP L ≤ n → n ≤ 9223372036854775807 → Gr.PaIn L
  | [], _, _, _ => fun q hq => by cases hq
  | p :: r, n, h, hn => fun q hq => by
    unfold Tr.totP at h
    simp only [List.map_cons, List.sum_cons] at h
    rcases List.mem_cons.1 hq with rfl | hq
    · omega
    · exact tot_in r n (by unfold Tr.totP; omega) hn q hq
def ParseIs (s : ByteArray) (L : Rg.PL) (ok : Bool) : Prop := (ok = true → parse s = some L) ∧ (ok = false → parse s = none)
set_option maxRecDepth 100000 in
set_option maxHeartbeats 4000000 in
theorem pairsIn_any (s : ByteArray) (ea : Addr) (hs : s.size ≤ 8000) (w : World) (hE : ErrIs w ea) :
    Calls Tryz.prog 61 #[.string s] w fun e w' => (∃ d L ok, e = .returned (.tuple #[d, .bool ok]) ∧ Gr.PaOwn w' w.heap.size d L ∧ ParseIs s L ok ∧ L.length ≤ 8000 ∧ Tr.totP L ≤ 8000) ∧ Below w.heap.size w w' := by
  have h0 : 0 < w.heap.size := World.block_lt_of_cell? w _ hE
  have e0 : w.cell? ⟨0, 0, none⟩ = some (.iface 250 (.pointer (some ea))) := hE
  obtain ⟨V1, hV1⟩ : ∃ W, W = w.alloc (Obj.cells #[.string s, .int .i64 0, .func (.func 92) #[] #[]] 118) := ⟨_, rfl⟩
  have b1 : Below w.heap.size w V1 := by rw [hV1]; exact Gr.below_new _ _
  have x1 : RdI V1 w.heap.size s 0 := by rw [hV1]; exact Gr.Blk.new0
  have e1 : ErrIs V1 ea := hE.below b1 h0
  have NI := hide (nextI_any s 0 w.heap.size ea (by omega) h0 V1 x1 e1)
  have hz1 := b1.size
  clear x1
  go_enter Tryz.func61, Tryz.ntmps61
  cases hq : readA s ((0 : Nat) : Int) with
  | none =>
    have NN : Hid (Calls Tryz.prog 93 #[.pointer (some ⟨w.heap.size, 0, none⟩)] V1 fun e w' => (e = .returned (.tuple #[.int .i64 0, .iface 250 (.pointer (some ea))]) ∧ RdI w' w.heap.size s 0) ∧ Kept (fun k => k = w.heap.size) V1 w') := by
      have h := unhide NI
      rw [hq] at h
      exact h
    have HP : Hid (parse s = none) := by
      show _ = _
      unfold parse
      have hq' : readA s 0 = none := hq
      rw [hq']
    clear NI hq
    go_wp2_with fail
    rw [← hV1]
    clear hV1
    refine (unhide NN).mono ?_
    rintro e w2 ⟨⟨rfl, hr2⟩, hk2⟩
    have e2 : w2.cell? ⟨0, 0, none⟩ = some (.iface 250 (.pointer (some ea))) := ErrIs.kept e1 hk2 h0 (by omega)
    have HB2 := hide (b1.trans (hk2.below b1.size (fun i hi => by omega)))
    clear NN hr2 hk2
    go_wp2_with fail
    refine (is_same ea w2).mono ?_
    rintro e w3 ⟨rfl, rfl⟩
    go_wp2
    go_ret2
    exact ⟨⟨_, [], false, rfl, ⟨⟨rfl, .inl ⟨rfl, rfl⟩⟩, (fun q hq => (by cases hq)), by simp⟩, ⟨fun h => (by cases h), fun _ => unhide HP⟩, Nat.zero_le _, by simp [Tr.totP]⟩, unhide HB2⟩
  | some q =>
    obtain ⟨n, a⟩ := q
    have hbd := readA_bound hq
    have hbd1 : n ≤ 1000000000 := hbd.1
    have hbd2 : a ≤ s.size := hbd.2
    have NN : Hid (Calls Tryz.prog 93 #[.pointer (some ⟨w.heap.size, 0, none⟩)] V1 fun e w' => (e = .returned (.tuple #[.int .i64 (n : Int), .nilIface]) ∧ RdI w' w.heap.size s a) ∧ Kept (fun k => k = w.heap.size) V1 w') := by
      have h := unhide NI
      rw [hq] at h
      exact h
    have HP : Hid (parse s = if (allF s (s.size + 1) a).1.length = n ∧ (allF s (s.size + 1) a).2 = s.size then some (allF s (s.size + 1) a).1 else none) := by
      show _ = _
      unfold parse
      have hq' : readA s 0 = some (n, a) := hq
      rw [hq']
    have HT := hide (allF_tot s (s.size + 1) a hbd2)
    have HA2 := hide (allF_text s (s.size + 1) a hbd2).2
    have AL := hide (fun b W (hb : 0 < b) (h1 : RdBox W b s a) (h2 : ErrIs W ea) => all_any s a b ea (by omega) hbd2 hb W h1 h2)
    have HAL : Hid (∃ L E, allF s (s.size + 1) a = (L, E)) := ⟨_, _, rfl⟩
    obtain ⟨L, E, hLE⟩ := unhide HAL
    rw [hLE] at HP HT HA2 AL
    simp only at HP HT HA2 AL
    clear NI hq hbd HAL hLE
    go_wp2_with fail
    rw [← hV1]
    clear hV1
    refine (unhide NN).mono ?_
    rintro e w2 ⟨⟨rfl, hr2⟩, hk2⟩
    have e2 : w2.cell? ⟨0, 0, none⟩ = some (.iface 250 (.pointer (some ea))) := ErrIs.kept e1 hk2 h0 (by omega)
    have b2 := b1.trans (hk2.below b1.size (fun i hi => by omega))
    have r2 : w2.cell? ⟨w.heap.size, 1, none⟩ = some (.int .i64 (a : Int)) := Gr.Blk.cell hr2 1 _ rfl
    have hzA := b2.size
    clear NN hr2 hk2
    go_wp2_with fail
    refine (is_nil ea w2).mono ?_
    rintro e w3 ⟨rfl, rfl⟩
    obtain ⟨V4, hV4⟩ : ∃ W, W = w3.alloc (Obj.cells #[.string s, .int .i64 (a : Int), .func (.func 95) #[] #[]] 126) := ⟨_, rfl⟩
    have b4 : Below w3.heap.size w3 V4 := by rw [hV4]; exact Gr.below_new _ _
    have x4 : RdBox V4 w3.heap.size s a := by rw [hV4]; exact Gr.Blk.new0
    have e4 : ErrIs V4 ea := (show ErrIs w3 ea from e2).below b4 (by omega)
    have h03 : 0 < w3.heap.size := by omega
    have ALW := hide (unhide AL w3.heap.size V4 h03 x4 e4)
    have bb4 := b2.trans (b4.mono b2.size)
    have hzB := b4.size
    clear AL x4 e4 b4
    go_wp2_with fail
    rw [← hV4]
    clear hV4 r2 e2
    refine (unhide ALW).mono ?_
    rintro e w5 ⟨⟨d, rfl, hown⟩, hr5, hl5, hk5⟩
    have b5 : Below w.heap.size w w5 := bb4.trans (hk5.below (by omega) (fun i hi => by omega))
    have AE := hide (atEnd_any s E w3.heap.size w5 hr5)
    obtain ⟨da, dc, rfl⟩ := Gr.own_slice hown
    have HO5 : Hid (w5.ownsRow w.heap.size 55 2 (.slice da L.length dc) L.length (Tr.pairsV L)) := Gr.own_lower (by omega) hown
    have hT := unhide HT
    have hA2 := unhide HA2
    have HIN : Hid (Gr.PaIn L) := tot_in L 8000 (by omega) (by omega)
    have hl8 : L.length ≤ 8000 := by omega
    have ht8 : Tr.totP L ≤ 8000 := by omega
    have HB5 := hide b5
    clear ALW hown hr5 hk5 HT HA2 hT hA2 bb4 b5
    by_cases hn : L.length = n
    · subst hn
      have hn1 : (((L.length : Nat) : Int) == ((L.length : Nat) : Int)) = true := by rw [beq_iff_eq]
      by_cases hE : E = s.size
      · have hE1 : decide ((E : Int) = (s.size : Int)) = true := by rw [decide_eq_true_eq]; omega
        rw [hE1] at AE
        go_wp2_with fail
        refine (unhide AE).mono ?_
        rintro e w6 ⟨rfl, hb6⟩
        have hO6 := Gr.own_below (unhide HO5) hb6
        have hB6 := (unhide HB5).trans (hb6.mono (unhide HB5).size)
        clear HO5 hb6 AE
        go_wp2
        go_ret2
        exact ⟨⟨_, L, true, rfl, ⟨hO6, unhide HIN, by omega⟩, ⟨fun _ => by rw [unhide HP, if_pos ⟨by first | rfl | trivial, hE⟩], fun h => (by cases h)⟩, hl8, ht8⟩, hB6⟩
      · have hE1 : decide ((E : Int) = (s.size : Int)) = false := by rw [decide_eq_false_iff_not]; omega
        rw [hE1] at AE
        go_wp2_with fail
        refine (unhide AE).mono ?_
        rintro e w6 ⟨rfl, hb6⟩
        have hO6 := Gr.own_below (unhide HO5) hb6
        have hB6 := (unhide HB5).trans (hb6.mono (unhide HB5).size)
        clear HO5 hb6 AE
        go_wp2
        go_ret2
        exact ⟨⟨_, L, false, rfl, ⟨hO6, unhide HIN, by omega⟩, ⟨fun h => (by cases h), fun _ => by rw [unhide HP, if_neg (fun h => hE h.2)]⟩, hl8, ht8⟩, hB6⟩
    · have hn1 : (((L.length : Nat) : Int) == (n : Int)) = false := by rw [beq_eq_false_iff_ne]; omega
      go_wp2_with fail
      go_ret2
      exact ⟨⟨_, L, false, rfl, ⟨unhide HO5, unhide HIN, by omega⟩, ⟨fun h => (by cases h), fun _ => by rw [unhide HP, if_neg (fun h => hn h.1)]⟩, hl8, ht8⟩, unhide HB5⟩
end Cy
end Go.Proofs.YtihnaddfpmjpaaaGreatDoor
namespace Go.Proofs.YtihnaddfpmjpaaaGreatDoor
namespace Cy
open Go.RowKit
open Gr (Blk Kept)
def rdL (t : ByteArray) : Rg.PL := (readQ t).getD []
def rdB (t : ByteArray) : Bool := (readQ t).isSome
theorem readQ_yes {t s : ByteArray} {L : Rg.PL} (h1 : unQ t = some s) (h2 : parse s = some L) (h3 : Rg.stateOk L = true) : readQ t = some L := by
  unfold readQ
  rw [h1]
  simp only
  rw [h2]
  simp only
  rw [if_pos h3]
theorem readQ_bad {t s : ByteArray} {L : Rg.PL} (h1 : unQ t = some s) (h2 : parse s = some L) (h3 : Rg.stateOk L = false) : readQ t = none := by
  unfold readQ
  rw [h1]
  simp only
  rw [h2]
  simp only
  rw [if_neg (by rw [h3]; simp)]
theorem readQ_unparsed {t s : ByteArray} (h1 : unQ t = some s) (h2 : parse s = none) : readQ t = none := by
  unfold readQ
  rw [h1]
  simp only
  rw [h2]
theorem readQ_open {t : ByteArray} (h1 : unQ t = none) : readQ t = none := by
  unfold readQ
  rw [h1]
theorem own_none (w : World) (B : Nat) : Gr.PaOwn w B (.slice none 0 0) [] := ⟨⟨rfl, .inl ⟨rfl, rfl⟩⟩, (fun q hq => (by cases hq)), by simp⟩
set_option maxRecDepth 100000 in
set_option maxHeartbeats 4000000 in
theorem implRead_gen (ea : Addr) (t : ByteArray) (ht : t.size ≤ 1048576) (w : World) (hT : Rg.Tab w.heap.size w) (hE : ErrIs w ea) :
    Calls Tryz.prog 28 #[.string t] w fun e w' => (∃ d, e = .returned (.tuple #[d, .bool (rdB t)]) ∧ Gr.PaOwn w' w.heap.size d (rdL t)) ∧ Below w.heap.size w w' := by
  have h0 : 0 < w.heap.size := World.block_lt_of_cell? w _ hE
  have UN := hide (fun w => implUnsealed_any t (by omega) w)
  rw [unsealA_is] at UN
  have HE := hide hE
  have HT := hide hT
  have HBB := hide (Eq.refl (rdB t))
  have HLL := hide (Eq.refl (rdL t))
  obtain ⟨bb, hbb⟩ : ∃ x, x = rdB t := ⟨_, rfl⟩
  obtain ⟨LL, hll⟩ : ∃ x, x = rdL t := ⟨_, rfl⟩
  rw [← hbb, ← hll]
  have HB0 := hide hbb
  have HL0 := hide hll
  clear hE hT HBB HLL hbb hll
  go_enter Tryz.func28, Tryz.ntmps28
  cases hu : unQ t with
  | none =>
    rw [hu] at UN
    simp only at UN
    have hB : bb = false := (unhide HB0).trans (by unfold rdB; rw [readQ_open hu]; rfl)
    have hL : LL = [] := (unhide HL0).trans (by unfold rdL; rw [readQ_open hu]; rfl)
    subst hB hL
    clear hu
    go_wp2_with fail
    refine (unhide UN w).mono ?_
    rintro e w1 ⟨rfl, hb1⟩
    have PI := hide (pairsIn_any ⟨#[]⟩ ea (by simp [ByteArray.size]) w1 ((unhide HE).below hb1 h0))
    have HB1 := hide hb1
    clear hb1 UN
    go_wp2_with fail
    refine (unhide PI).mono ?_
    rintro e w2 ⟨⟨d, L, ok, rfl, _, _, _, _⟩, hb2⟩
    have HB2 := hide ((unhide HB1).trans (hb2.mono (unhide HB1).size))
    clear PI hb2 HB1
    go_wp2
    go_ret2
    exact ⟨⟨_, rfl, own_none _ _⟩, unhide HB2⟩
  | some s =>
    have hsz := (unQ_sealed hu).2
    rw [hu] at UN
    simp only at UN
    go_wp2_with fail
    refine (unhide UN w).mono ?_
    rintro e w1 ⟨rfl, hb1⟩
    have PI := hide (pairsIn_any s ea hsz w1 ((unhide HE).below hb1 h0))
    have HB1 := hide hb1
    have hz1 := hb1.size
    clear hb1 UN
    go_wp2_with fail
    refine (unhide PI).mono ?_
    rintro e w2 ⟨⟨d, L, ok, rfl, hO, hP, hl8, ht8⟩, hb2⟩
    have hb2w := (unhide HB1).trans (hb2.mono (unhide HB1).size)
    have SO := hide (fun (B : Unit) => Gr.implStateOk_gen w2.heap.size d L (by unfold Gr.pasize; omega) w2 (Nat.le_refl _) (((unhide HT).below hb2w).mono hb2w.size) hO.at)
    have HB2 := hide hb2w
    have HO2 := hide (hO.lower hz1)
    obtain ⟨da, dc, rfl⟩ := hO.at.shape
    have HP := hide hP
    clear PI hb2 HB1 hO hP hb2w
    cases ok with
    | false =>
      have hq := readQ_unparsed hu ((unhide HP).2 rfl)
      have hB : bb = false := (unhide HB0).trans (by unfold rdB; rw [hq]; rfl)
      have hL : LL = [] := (unhide HL0).trans (by unfold rdL; rw [hq]; rfl)
      subst hB hL
      clear hu hq HP SO HO2
      go_wp2_with fail
      go_ret2
      exact ⟨⟨_, rfl, own_none _ _⟩, unhide HB2⟩
    | true =>
      have hp := (unhide HP).1 rfl
      cases hst : Rg.stateOk L with
      | false =>
        have hq := readQ_bad hu hp hst
        have hB : bb = false := (unhide HB0).trans (by unfold rdB; rw [hq]; rfl)
        have hL : LL = [] := (unhide HL0).trans (by unfold rdL; rw [hq]; rfl)
        subst hB hL
        have SO2 := hide (unhide SO ())
        rw [hst] at SO2
        clear hu hq HP SO HO2 hst hp
        go_wp2_with fail
        refine (unhide SO2).mono ?_
        rintro e w3 ⟨rfl, hb3⟩
        have HB3 := hide ((unhide HB2).trans (hb3.mono (unhide HB2).size))
        clear SO2 hb3 HB2
        go_wp2
        go_ret2
        exact ⟨⟨_, rfl, own_none _ _⟩, unhide HB3⟩
      | true =>
        have hq := readQ_yes hu hp hst
        have hB : bb = true := (unhide HB0).trans (by unfold rdB; rw [hq]; rfl)
        have hL : LL = L := (unhide HL0).trans (by unfold rdL; rw [hq]; rfl)
        subst hB hL
        have SO2 := hide (unhide SO ())
        rw [hst] at SO2
        clear hu hq HP SO hst hp
        go_wp2_with fail
        refine (unhide SO2).mono ?_
        rintro e w3 ⟨rfl, hb3⟩
        have HB3 := hide ((unhide HB2).trans (hb3.mono (unhide HB2).size))
        have HO3 := hide ((unhide HO2).below hb3)
        clear SO2 hb3 HB2 HO2
        go_wp2
        go_ret2
        exact ⟨⟨_, rfl, unhide HO3⟩, unhide HB3⟩
end Cy
end Go.Proofs.YtihnaddfpmjpaaaGreatDoor
namespace Go.Proofs.YtihnaddfpmjpaaaGreatDoor
namespace Cy
open Go.RowKit
open Gr (Blk Kept PaOwn)
def unV : Option ByteArray → Value
  | none => .tuple #[.string ⟨#[]⟩, .bool false]
  | some s => .tuple #[.string s, .bool true]
theorem unsealA_v (t : ByteArray) : unsealA t = unV (unQ t) := by
  rw [unsealA_is]
  cases unQ t <;> rfl
def rsF (s : ByteArray) (a : Nat) : ByteArray × Nat × Bool := match rdSh s a with | none => (⟨#[]⟩, 0, false) | some p => (p.1, p.2, true)
theorem rsOut_f (s : ByteArray) (a : Nat) : rsOut s (readA s (a : Int)) = .tuple #[.string (rsF s a).1, .int .i64 ((rsF s a).2.1 : Int), .bool (rsF s a).2.2] := by
  rw [rsOut_is]
  unfold rsF
  cases rdSh s a <;> rfl
theorem rsF_small (s : ByteArray) (a : Nat) : (rsF s a).1.size ≤ 8000 ∧ (rsF s a).2.1 ≤ s.size := by
  unfold rsF
  cases h : rdSh s a with
  | none => exact ⟨by simp [ByteArray.size], Nat.zero_le _⟩
  | some p =>
    obtain ⟨_, h2, _, h4⟩ := rdSh_text h
    exact ⟨h4, h2⟩
/-- What stands while the specification reads. -/
structure Rdg (s : ByteArray) (e0 : Nat) (ok : Bool) (i a : Nat) (L : Rg.PL) : Prop where
  yes : ok = true → preF s i e0 = some (L, a) ∧ Tr.totP L ≤ a
  no : ok = false → preF s i e0 = none
  tot : Tr.totP L ≤ 24000
  len : L.length = i
  low : a ≤ s.size
theorem tot_snoc (L : Rg.PL) (x y : ByteArray) : Tr.totP (L ++ [(x, y)]) = Tr.totP L + (x.size + y.size) := by
  unfold Tr.totP
  rw [List.map_append, List.sum_append]
  simp
theorem rdg_step {s : ByteArray} {e0 i a : Nat} {L : Rg.PL} (hs : s.size ≤ 8000) (h : Rdg s e0 true i a L) :
    Rdg s e0 ((rsF s a).2.2 && (rsF s (rsF s a).2.1).2.2) (i + 1) (rsF s (rsF s a).2.1).2.1 (L ++ [((rsF s a).1, (rsF s (rsF s a).2.1).1)]) := by
  obtain ⟨h1, h2⟩ := h.yes rfl
  have sx := rsF_small s a
  have sy := rsF_small s (rsF s a).2.1
  have hl := h.low
  refine ⟨fun hk => ?_, fun hk => ?_, by rw [tot_snoc]; omega, by rw [List.length_append, h.len]; rfl, sy.2⟩
  · cases hx : rdSh s a with
    | none => unfold rsF at hk; rw [hx] at hk; simp at hk
    | some p =>
      have ex : rsF s a = (p.1, p.2, true) := by unfold rsF; rw [hx]
      rw [ex] at hk ⊢
      simp only at hk ⊢
      cases hy : rdSh s p.2 with
      | none => unfold rsF at hk; rw [hy] at hk; simp at hk
      | some q =>
        have ey : rsF s p.2 = (q.1, q.2, true) := by unfold rsF; rw [hy]
        rw [ey]
        simp only
        have hp : rdP s a = some ((p.1, q.1), q.2) := by unfold rdP; rw [hx]; simp only; rw [hy]
        obtain ⟨_, _, _, h9⟩ := rdP_text hp
        refine ⟨?_, ?_⟩
        · unfold preF
          rw [h1]
          simp only
          rw [hp]
        · rw [tot_snoc]
          simp only at h9
          omega
  · have hp : rdP s a = none := by
      unfold rdP
      cases hx : rdSh s a with
      | none => rfl
      | some p =>
        simp only
        cases hy : rdSh s p.2 with
        | none => rfl
        | some q =>
          have ex : rsF s a = (p.1, p.2, true) := by unfold rsF; rw [hx]
          have ey : rsF s p.2 = (q.1, q.2, true) := by unfold rsF; rw [hy]
          rw [ex] at hk
          simp only at hk
          rw [ey] at hk
          simp at hk
    unfold preF
    rw [h1]
    simp only
    rw [hp]
theorem preF_dead {s : ByteArray} {e0 i : Nat} (h : preF s i e0 = none) : ∀ k, preF s (i + k) e0 = none
  | 0 => h
  | k + 1 => by
    show preF s (i + k + 1) e0 = none
    unfold preF
    rw [preF_dead h k]
theorem rdg_end {t s : ByteArray} {n e0 i a : Nat} {ok : Bool} {L : Rg.PL} (hu : unQ t = some s) (hr : readA s 0 = some (n, e0)) (h : Rdg s e0 ok i a L) (hi : i ≤ n) (he : ¬ i < n ∨ ok = false ∨ 120 < i) :
    ∀ s' n' e', unQ t = some s' → readA s' 0 = some (n', e') → ∀ M p, preF s' n' e' = some (M, p) → n' ≤ 120 → ok = true ∧ L = M := by
  intro s' n' e' hu' hr' M p hp hn
  rw [hu] at hu'
  cases hu'
  rw [hr] at hr'
  cases hr'
  cases hok : ok with
  | false =>
    have h1 := preF_dead (h.no hok) (n - i)
    rw [show i + (n - i) = n by omega, hp] at h1
    cases h1
  | true =>
    have hin : i = n := by
      rcases he with he | he | he
      · omega
      · rw [hok] at he; cases he
      · omega
    subst hin
    have h1 := (h.yes hok).1
    rw [hp] at h1
    cases h1
    exact ⟨rfl, rfl⟩
theorem getD_none {t : ByteArray} (h : readQ t = none) : rdL t = [] ∧ rdB t = false := by
  unfold rdL rdB
  rw [h]
  exact ⟨rfl, rfl⟩
theorem getD_some {t : ByteArray} {L : Rg.PL} (h : readQ t = some L) : rdL t = L ∧ rdB t = true := by
  unfold rdL rdB
  rw [h]
  exact ⟨rfl, rfl⟩
set_option maxRecDepth 100000 in
set_option maxHeartbeats 8000000 in
theorem specRead_gen (t : ByteArray) (ht : t.size ≤ 1048576) (w : World) :
    Calls Tryz.prog 27 #[.string t] w fun e w' => (∃ d, e = .returned (.tuple #[d, .bool (rdB t)]) ∧ PaOwn w' w.heap.size d (rdL t)) ∧ Below w.heap.size w w' := by
  obtain ⟨i0, hi, hz0, hz1, hz2⟩ := info_parts Tr.infoPair
  have UN := hide (fun w => specUnsealed_any t (by omega) w)
  rw [unsealA_v] at UN
  obtain ⟨bb, hbb⟩ : ∃ x, x = rdB t := ⟨_, rfl⟩
  obtain ⟨LL, hll⟩ : ∃ x, x = rdL t := ⟨_, rfl⟩
  rw [← hbb, ← hll]
  -- what is unsealed, and its number
  obtain ⟨s, ok0, hUN, hu1, hu0, hsz⟩ : ∃ (s : ByteArray) (ok0 : Bool), unV (unQ t) = .tuple #[.string s, .bool ok0] ∧ (ok0 = true → unQ t = some s) ∧ (ok0 = false → unQ t = none) ∧ s.size ≤ 8000 := by
    cases hu : unQ t with
    | none => exact ⟨⟨#[]⟩, false, rfl, fun h => (by cases h), fun _ => rfl, (by simp [ByteArray.size] : (ByteArray.mk #[]).size ≤ 8000)⟩
    | some s => exact ⟨s, true, rfl, fun _ => rfl, fun h => (by cases h), (unQ_sealed hu).2⟩
  rw [hUN] at UN
  have RV := hide (fun w => specRead_any s (0 : Int) (by omega) w)
  obtain ⟨n, e0, ok1, hRV, hr1, hr0, he0⟩ : ∃ (n e0 : Nat) (ok1 : Bool), rvOut (readA s (0 : Int)) = .tuple #[.int .i64 (n : Int), .int .i64 (e0 : Int), .bool ok1] ∧ (ok1 = true → readA s 0 = some (n, e0)) ∧ (ok1 = false → readA s 0 = none) ∧ (e0 ≤ s.size ∧ n ≤ 1000000000) := by
    cases hr : readA s (0 : Int) with
    | none => exact ⟨0, 0, false, rfl, fun h => (by cases h), fun _ => rfl, Nat.zero_le _, by omega⟩
    | some p =>
      obtain ⟨n, e0⟩ := p
      have := readA_bound hr
      exact ⟨n, e0, true, rfl, fun _ => rfl, fun h => (by cases h), this.2, this.1⟩
  rw [hRV] at RV
  have RS := hide (fun (a : Nat) w => specRS_any s (a : Int) (by omega) w)
  have HRS : Hid (∀ a : Nat, rsOut s (readA s (a : Int)) = .tuple #[.string (rsF s a).1, .int .i64 ((rsF s a).2.1 : Int), .bool (rsF s a).2.2]) := rsOut_f s
  have HSM := hide (rsF_small s)
  have HSTEP := hide (fun i a L (h : Rdg s e0 true i a L) => rdg_step hsz h)
  -- the end: what is told, of what has been read
  have HFAIL : Hid ((ok0 && ok1) = false → readQ t = none) := fun h => by
    unfold readQ
    cases hok : ok0 with
    | false => rw [hu0 hok]
    | true =>
      rw [hok, Bool.true_and] at h
      rw [hu1 hok]
      simp only
      unfold parse
      rw [hr0 h]
  have HFIN : Hid (∀ (ok : Bool) (i a : Nat) (L : Rg.PL), ((ok0 && ok1) = false → ok = false) → ((ok0 && ok1) = true → Rdg s e0 ok i a L ∧ i ≤ n) → (¬ i < n ∨ ok = false ∨ 120 < i) → readQ t = (if ok = true ∧ Rg.stateOk L = true ∧ textR L = t then some L else none)) := fun ok i a L hf ht2 he => by
    cases hk : (ok0 && ok1) with
    | false => rw [hf hk, if_neg (fun h => by cases h.1)]; exact unhide HFAIL hk
    | true =>
      obtain ⟨hR, hin⟩ := ht2 hk
      rw [Bool.and_eq_true] at hk
      rcases spec_end (rdg_end (hu1 hk.1) (hr1 hk.2) hR hin he) with h | ⟨h1, h2⟩
      · exact h
      · rw [h2, if_neg (fun h => by rw [h1] at h; cases h.1)]
  have HB0 := hide hbb
  have HL0 := hide hll
  have ST := hide (fun d L w (h1 : Gr.pasize L ≤ 1048576) (hd : Gr.PaAt w d w.heap.size L) => specText_gen w.heap.size d L h1 w (Nat.le_refl _) hd)
  clear HFAIL hbb hll hUN hu1 hu0 hRV hr1 hr0
  go_enter Tryz.func27, Tryz.ntmps27
  go_wp2_with fail
  refine (unhide UN w).mono ?_
  rintro e w1 ⟨rfl, hb1⟩
  go_wp2_with fail
  refine (unhide RV w1).mono ?_
  rintro e w2 ⟨rfl, hb2⟩
  have b2 := hb1.trans (hb2.mono hb1.size)
  have HB2 := hide b2
  have hzw2 := b2.size
  clear hb1 hb2 UN RV b2
  obtain ⟨okk, hokk⟩ : ∃ x, x = (ok0 && ok1) := ⟨_, rfl⟩
  rw [← hokk] at HFIN
  have HOKK := hide hokk
  have HR0 : Hid (okk = true → Rdg s e0 okk 0 e0 [] ∧ 0 ≤ n) := fun h => ⟨⟨fun _ => ⟨rfl, by simp [Tr.totP]⟩, fun h2 => (by rw [h] at h2; cases h2), by simp [Tr.totP], rfl, he0.1⟩, Nat.zero_le _⟩
  have he1 := he0.1
  have hn9 := he0.2
  obtain ⟨V3, hV3⟩ : ∃ W, W = w2.alloc (Obj.cells #[] 55) := ⟨_, rfl⟩
  have b3 : Below w2.heap.size w2 V3 := by rw [hV3]; exact Gr.below_new _ _
  have HO3 : Hid (V3.ownsRow w2.heap.size 55 2 (.slice (some ⟨w2.heap.size, 0, none⟩) 0 0) 0 []) := by rw [hV3]; exact World.ownsRow_made w2 #[] 0 (Nat.le_refl _) (Nat.zero_le _) rfl
  have HB3 := hide b3
  clear he0 b3
  go_upto_region 4 with fail
  rw [← hV3]
  clear hV3
  go_cut [5] (fun p5 wx => p5 = .bool okk ∧ wx = V3)
  case first =>
    cases ok0 <;> cases ok1 <;> (simp at hokk; subst hokk; go_wp2_with fail; go_meet; exact ⟨rfl, rfl⟩)
  case rest =>
    obtain ⟨rfl, rfl⟩ := hcut
    clear hokk
    go_wp2_with fail
    go_loopw [5, 7, 9, 10] (fun p5 p7 p9 p10 wr => ∃ (ok : Bool) (a i : Nat) (L : Rg.PL), p5 = .bool ok ∧ p7 = .int .i64 (a : Int) ∧ p10 = .int .i64 (i : Int) ∧ i ≤ 121 ∧ Hid (okk = false → ok = false) ∧ Hid (okk = true → Rdg s e0 ok i a L ∧ i ≤ n) ∧ L.length ≤ 121 ∧ Tr.totP L ≤ 24000 ∧ Hid (wr.ownsRow w2.heap.size 55 2 p9 L.length (Tr.pairsV L)) ∧ Below w2.heap.size w2 wr) (fun _ _ _ p10 _ => 121 - (intOf p10).toNat)
    case atStart => exact ⟨okk, e0, 0, [], rfl, rfl, rfl, by omega, fun h => h, unhide HR0, by simp, by simp [Tr.totP], unhide HO3, unhide HB3⟩
    case round =>
      obtain ⟨ok, a, i, L, rfl, rfl, rfl, hi121, HF, HT, hL121, htot, HO, hb⟩ := hrel
      by_cases hg : i < n ∧ ok = true ∧ i ≤ 120
      · obtain ⟨g1, g2, g3⟩ := hg
        subst g2
        have hk : okk = true := by
          cases okk with
          | false => have := unhide HF rfl; cases this
          | true => rfl
        obtain ⟨hR, _⟩ := unhide HT hk
        have hS := unhide HSTEP i a L hR
        have s1 := unhide HSM a
        have R1 := hide (unhide RS a)
        rw [unhide HRS a] at R1
        generalize hx : rsF s a = x at hS s1 R1
        obtain ⟨xb, xe, xg⟩ := x
        simp only at hS s1 R1
        have s2 := unhide HSM xe
        have R2 := hide (unhide RS xe)
        rw [unhide HRS xe] at R2
        generalize hy : rsF s xe = y at hS s2 R2
        obtain ⟨yb, ye, yg⟩ := y
        simp only at hS s2 R2
        have HS := hide hS
        have hlen := hS.len
        have ht2 := hS.tot
        have g1i : (i : Int) < (n : Int) := by omega
        have g3i : (i : Int) ≤ 120 := by omega
        have HOKT : Hid (okk = true) := hk
        clear hx hy hR hS HF HT hk
        go_wp2_with fail
        refine (unhide R1 wr).mono ?_
        rintro e w5 ⟨rfl, hb5⟩
        go_wp2_with fail
        refine (unhide R2 w5).mono ?_
        rintro e w6 ⟨rfl, hb6⟩
        have hb56 := hb5.trans (hb6.mono hb5.size)
        have hbw6 := hb.trans (hb56.mono hb.size)
        have hown := Gr.own_below (unhide HO) hb56
        have hlow : ∀ k, u9.ownBlock = some k → w2.heap.size ≤ k := fun k hk => (hown.lt k hk).1
        have hz6 := hbw6.size
        have HST2 := hide (unhide HSTEP)
        clear hb5 hb6 hb56 hb HO R1 R2
        cases xg <;> cases yg
        all_goals
          go_wp2_with (at_builtin; refine wpList_append_own _ rfl _ _ 26 rfl w2.heap.size 55 i0 (.agg #[.string ⟨#[]⟩, .string ⟨#[]⟩]) 2 32 Tryz.underlying26 hi hz0 hz1 hz2 rfl (by decide) _ _ _ rfl (hown.alloc _) ⟨w6.heap.size, 0, none⟩ 1 1 [.string xb, .string yb] rfl rfl (cy_news _ _ _ _) (cy_one _ _) ?c1 ?c2 ?c3 ?_)
          case c1 => unfold maxLen; omega
          case c2 => omega
          case c3 => simp; omega
          intro v' w7 ho7 hg7 _
          rw [← pairs_snoc] at ho7
          have HO7 : Hid (w7.ownsRow w2.heap.size 55 2 v' (L ++ [(xb, yb)]).length (Tr.pairsV (L ++ [(xb, yb)]))) := by rw [List.length_append]; exact ho7
          have hb7 : Below w2.heap.size w2 w7 := (hbw6.alloc hbw6.size _).grown hg7 (by first | (simp; done) | (simp; omega)) (fun k hk => by have := hlow k hk; omega)
          have HS2 := HS
          clear hown ho7 hg7 hlow hbw6 HS
          go_wp2_with fail
          refine ⟨⟨_, ye, i + 1, L ++ [(xb, yb)], rfl, rfl, by go_num, by omega, fun h => absurd ((unhide HOKT).symm.trans h) (by decide), fun _ => ⟨unhide HS2, by omega⟩, by omega, ht2, HO7, hb7⟩, by simp [intOf]; omega⟩
      · have hex : ¬ i < n ∨ ok = false ∨ 120 < i := by
          rcases Nat.lt_or_ge i n with h1 | h1
          · cases ok with
            | false => exact .inr (.inl rfl)
            | true => exact .inr (.inr (by apply Classical.byContradiction; intro h; exact hg ⟨h1, rfl, by omega⟩))
          · exact .inl (by omega)
        have hfin := unhide HFIN ok i a L (unhide HF) (unhide HT) hex
        have hin : Gr.PaIn L := tot_in L 24000 htot (by omega)
        have hown : PaOwn wr w2.heap.size u9 L := ⟨unhide HO, hin, by omega⟩
        obtain ⟨A9, c9, hu9⟩ := hown.at.shape
        subst hu9
        have SX := hide (unhide ST _ L wr (by unfold Gr.pasize; omega) hown.at)
        have HOW := hide hown
        have hbw := (unhide HB2).trans (hb.mono hzw2)
        have HBW := hide hbw
        have hzr := hbw.size
        generalize hst : Rg.stateOk L = st at hfin SX
        generalize htx : textR L = tx at hfin SX
        have hways : (¬ (i : Int) < (n : Int)) ∨ ((i : Int) < (n : Int) ∧ ok = false) ∨ ((i : Int) < (n : Int) ∧ ok = true ∧ ¬ (i : Int) ≤ 120) := by
          rcases Nat.lt_or_ge i n with h1 | h1
          · cases ok with
            | false => exact .inr (.inl ⟨by omega, rfl⟩)
            | true => exact .inr (.inr ⟨by omega, rfl, fun h => hg ⟨h1, rfl, by omega⟩⟩)
          · exact .inl (by omega)
        have HFI := hide hfin
        have HEMP : Hid (∀ W, Below w.heap.size w W → ∀ A : Array Value, A = #[] → PaOwn (W.alloc (Obj.cells #[] 55)) w.heap.size (.slice (some ⟨W.heap.size, 0, none⟩) 0 0) []) := fun W hW A _ => ⟨World.ownsRow_made W #[] 0 hW.size (Nat.zero_le _) rfl, (fun q hq => (by cases hq)), by simp⟩
        clear hfin hex hg hin hown hst htx HF HT HO HFIN ST HSTEP hb hbw
        have hneg : ∀ W : Prop, W ∨ ¬ W := Classical.em
        cases st with
        | false =>
          have hq : readQ t = none := by have h := unhide HFI; rw [if_neg (fun h => by cases h.2.1)] at h; exact h
          obtain ⟨r1, r2⟩ := getD_none hq
          have e1 : bb = false := (unhide HB0).trans r2
          have e2 : LL = [] := (unhide HL0).trans r1
          subst e1 e2
          clear hq r1 r2 HFI
          cases ok
          all_goals
            rcases hways with g1 | ⟨g1, g2⟩ | ⟨g1, g2, g3⟩
          all_goals (first | (cases g2; done) | skip)
          all_goals
            go_wp2_with fail
            refine (unhide SX).mono ?_
            rintro e w8 ⟨rfl, hb8⟩
            have hB8 := (unhide HBW).trans (hb8.mono hzr)
            have HE8 := hide (unhide HEMP w8 hB8 #[] rfl)
            have HBE := hide (hB8.alloc hB8.size (Obj.cells #[] 55))
            clear hb8 hB8
            go_wp2
            go_ret2
            exact ⟨⟨_, rfl, unhide HE8⟩, unhide HBE⟩
        | true =>
          by_cases htt : tx = t
          · subst htt
            cases ok with
            | false =>
              have hq : readQ tx = none := by have h := unhide HFI; rw [if_neg (fun h => by cases h.1)] at h; exact h
              obtain ⟨r1, r2⟩ := getD_none hq
              have e1 : bb = false := (unhide HB0).trans r2
              have e2 : LL = [] := (unhide HL0).trans r1
              subst e1 e2
              clear hq r1 r2 HFI
              rcases hways with g1 | ⟨g1, g2⟩ | ⟨g1, g2, g3⟩
              all_goals (first | (cases g2; done) | skip)
              all_goals
                go_wp2_with fail
                refine (unhide SX).mono ?_
                rintro e w8 ⟨rfl, hb8⟩
                have hB8 := (unhide HBW).trans (hb8.mono hzr)
                have HE8 := hide (unhide HEMP w8 hB8 #[] rfl)
                have HBE := hide (hB8.alloc hB8.size (Obj.cells #[] 55))
                clear hb8 hB8
                go_wp2
                go_ret2
                exact ⟨⟨_, rfl, unhide HE8⟩, unhide HBE⟩
            | true =>
              have hq : readQ tx = some L := by have h := unhide HFI; rw [if_pos ⟨rfl, rfl, rfl⟩] at h; exact h
              obtain ⟨r1, r2⟩ := getD_some hq
              have e1 : bb = true := (unhide HB0).trans r2
              have e2 : LL = L := (unhide HL0).trans r1
              subst e1 e2
              clear hq r1 r2 HFI
              rcases hways with g1 | ⟨g1, g2⟩ | ⟨g1, g2, g3⟩
              all_goals (first | (cases g2; done) | skip)
              all_goals
                go_wp2_with fail
                refine (unhide SX).mono ?_
                rintro e w8 ⟨rfl, hb8⟩
                have HB8 := hide ((unhide HBW).trans (hb8.mono hzr))
                have HO8 := hide (((unhide HOW).below hb8).lower hzw2)
                clear hb8
                go_wp2
                go_ret2
                exact ⟨⟨_, rfl, unhide HO8⟩, unhide HB8⟩
          · have hq : readQ t = none := by have h := unhide HFI; rw [if_neg (fun h => htt h.2.2)] at h; exact h
            have hbn : (tx.toList == t.toList) = false := by rw [beq_eq_false_iff_ne]; exact fun h => htt (toList_inj h)
            obtain ⟨r1, r2⟩ := getD_none hq
            have e1 : bb = false := (unhide HB0).trans r2
            have e2 : LL = [] := (unhide HL0).trans r1
            subst e1 e2
            clear hq r1 r2 HFI
            cases ok
            all_goals
              rcases hways with g1 | ⟨g1, g2⟩ | ⟨g1, g2, g3⟩
            all_goals (first | (cases g2; done) | skip)
            all_goals
              go_wp2_with fail
              refine (unhide SX).mono ?_
              rintro e w8 ⟨rfl, hb8⟩
              have hB8 := (unhide HBW).trans (hb8.mono hzr)
              have HE8 := hide (unhide HEMP w8 hB8 #[] rfl)
              have HBE := hide (hB8.alloc hB8.size (Obj.cells #[] 55))
              clear hb8 hB8
              go_wp2
              go_ret2
              exact ⟨⟨_, rfl, unhide HE8⟩, unhide HBE⟩
def TabE (ea : Addr) (B : Nat) (w : World) : Prop := (Rg.Tab B w ∧ ErrIs w ea) ∧ 0 < B
theorem TabE.below {ea : Addr} {B : Nat} {w w' : World} (h : TabE ea B w) (hb : Below B w w') : TabE ea B w' := ⟨⟨h.1.1.below hb, h.1.2.below hb h.2⟩, h.2⟩
theorem TabE.mono {ea : Addr} {B C : Nat} {w : World} (h : TabE ea B w) (hC : B ≤ C) : TabE ea C w := ⟨⟨h.1.1.mono hC, h.1.2⟩, Nat.lt_of_lt_of_le h.2 hC⟩
theorem specReadState_gen (B : Nat) (t : ByteArray) (ht : t.size ≤ 1048576) (w : World) (_hB : B ≤ w.heap.size) :
    Calls Tryz.prog 27 #[.string t] w fun e w' => (∃ d, e = .returned (.tuple #[d, .bool (rdB t)]) ∧ PaOwn w' w.heap.size d (rdL t)) ∧ Below w.heap.size w w' := specRead_gen t ht w
theorem implReadState_gen (ea : Addr) (B : Nat) (t : ByteArray) (ht : t.size ≤ 1048576) (w : World) (_hB : B ≤ w.heap.size) (hT : TabE ea w.heap.size w) :
    Calls Tryz.prog 28 #[.string t] w fun e w' => (∃ d, e = .returned (.tuple #[d, .bool (rdB t)]) ∧ PaOwn w' w.heap.size d (rdL t)) ∧ Below w.heap.size w w' := implRead_gen ea t ht w hT.1.1 hT.1.2
theorem readQ_right {t : ByteArray} {L : Rg.PL} (h : readQ t = some L) : Rg.stateOk L = true := by
  unfold readQ at h
  cases hu : unQ t with
  | none => rw [hu] at h; cases h
  | some s =>
    rw [hu] at h
    simp only at h
    cases hp : parse s with
    | none => rw [hp] at h; cases h
    | some M =>
      rw [hp] at h
      simp only at h
      by_cases hst : Rg.stateOk M = true
      · rw [if_pos hst] at h; cases h; exact hst
      · rw [if_neg hst] at h; cases h
theorem rdL_len (t : ByteArray) : Gr.pasize (rdL t) ≤ 100000 + 1000 := by
  cases h : readQ t with
  | none => rw [(getD_none h).1]; unfold Gr.pasize; simp [Tr.totP]
  | some L =>
    rw [(getD_some h).1]
    have hst := readQ_right h
    obtain ⟨h1, _⟩ := state_map hst
    unfold Rg.stateOk at hst
    simp only [Bool.and_eq_true, decide_eq_true_eq] at hst
    have h2 := Rg.map_tot hst.1
    unfold Gr.pasize
    omega
theorem var_same {P : Program} {W W' : World} {n : String} {g B : Nat} {cs : Array Value} (hg : P.globalNamed n = some g) (hb : Below B W W') (hl : g < B) (h : W.var? P n = some cs) : W'.var? P n = some cs := by
  unfold World.var? at h ⊢
  rw [hg] at h ⊢
  simp only [Option.bind_some] at h ⊢
  rw [hb.block g hl]
  exact h
end Cy
end Go.Proofs.YtihnaddfpmjpaaaGreatDoor
