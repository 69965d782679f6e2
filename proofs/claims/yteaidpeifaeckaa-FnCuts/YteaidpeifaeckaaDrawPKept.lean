/-
  The contract of spec.l01Text, with all that it keeps.
-/
import Derived.Test.YteaidpeifaeckaaDrawPText
import Derived.Test.YteaidpeifaeckaaPgKept
namespace Go.Proofs.Yteaidpeifaeckaa
namespace Pg
open Go.RowKit

theorem Kept.strip {S : Nat → Prop} {w w' : World} (h : Kept (fun k => S k ∨ w.heap.size ≤ k) w w') : Kept S w w' :=
  ⟨h.1, h.2.1, h.2.2.1, h.2.2.2.1, fun i hi hn => h.2.2.2.2 i hi (fun e => by rcases e with e | e; exact hn e; omega)⟩

theorem Cur.kept {S : Nat → Prop} {a : Option Addr} {len cap g : Nat} {w w' : World} (h : Cur a len cap g w) (hk : Kept S w w') (hS : ¬ S g) : Cur a len cap g w' := by
  have hlt := h.lt
  obtain ⟨i, x, hi, hh⟩ := h
  exact ⟨i, x, hi, by rw [hk.2.2.2.2 g hlt hS]; exact hh⟩

theorem grown_kept {w w' : World} {g : Nat} (h : w.grownBy w' (some g)) : Kept (fun k => k = g) w w' := (Kept.of_grown h).weak (fun _ hk => (Option.some.inj hk).symm)

set_option maxRecDepth 100000 in
set_option maxHeartbeats 1000000 in
theorem text_kept (a : Option Addr) (len cap g B n : Nat) (hl : len ≤ 1048576) (hB : B ≤ g) (hn : n ≤ 5000) (w : World) (hgl : g < w.heap.size) (hc : Cur a len cap g w) (hd : Code a len B w) :
    Calls Try.prog 27 #[.pointer (some ⟨g, 0, none⟩), .int .i64 (n : Int)] w fun e w' => (∃ s : ByteArray, e = .returned (.string s) ∧ s.size = n) ∧ Cur a len cap g w' ∧ Kept (fun k => k = g) w w' := by
  obtain ⟨i0, hi, hz0, hz1, hz2⟩ := info_parts info5d
  have HC := hide hc
  have HD := hide hd
  clear hc hd
  have hn5 : ¬ (5000 : Int) < (n : Int) := by omega
  go_enter Try.func27, Try.ntmps27
  go_wp2_with fail
  go_loopw [5, 6] (fun out a6 wr => ∃ (i : Nat) (l : List UInt8), a6 = .int .i64 i ∧ i ≤ n ∧ l.length = i ∧ wr.ownsRow w.heap.size 5 1 out l.length (bytesV l) ∧ Cur a len cap g wr ∧ Code a len B wr ∧ Below g w wr ∧ Kept (fun k => k = g ∨ w.heap.size ≤ k) w wr) (fun _ a6 _ => n - (intOf a6).toNat)
  case atStart =>
    refine ⟨0, [], rfl, Nat.zero_le _, rfl, ?_, (unhide HC).alloc _, (unhide HD).alloc _, (Below.refl _ _).alloc (by omega) _, Kept.of_below (below_new _ _)⟩
    exact World.ownsRow_made w #[] 0 (Nat.le_refl _) (Nat.zero_le _) rfl
  case round =>
    obtain ⟨i, l, rfl, hi2, hll, hown, hcu, hco, hb, hkp⟩ := hrel
    have hbs := hb.size
    by_cases hlt : i < n
    · have H := hide (byte_any a len cap g B hl hB wr hcu hco)
      have HCO := hide hco
      have hk : ∀ k, u5.ownBlock = some k → w.heap.size ≤ k := fun k hk => (hown.lt k hk).1
      have HK := hide hk
      have HO := hide (fun (w2 : World) (hg : wr.grownBy w2 (some g)) => hown.kept hg (Or.inr (fun e => by have := hk g e; omega)))
      have HL := hide hll
      have hl2 : l.length ≤ 5000 := by omega
      clear hcu hco hown hk hll
      go_wp2_with fail
      refine (unhide H).mono ?_
      rintro e w2 ⟨⟨x, rfl, hx0, hx1⟩, hcu2, hg2⟩
      have hown2 := unhide HO w2 hg2
      have hs2 := hg2.size
      have HCU2 := hide hcu2
      have HCO2 := hide ((unhide HCO).grown hB hg2)
      have hb2 : Below g w w2 := hb.grown hg2 (by omega) (fun k hk => by have := Option.some.inj hk; omega)
      have hkp2 := hkp.trans ((Kept.of_grown hg2).weak (T := fun k => k = g ∨ w.heap.size ≤ k) (fun k hk => .inl (Option.some.inj hk).symm))
      clear hcu2 hg2 hkp
      go_wp2_with (at_builtin; refine wpList_append_own _ rfl _ _ 22 rfl w.heap.size 5 i0 (.int .u8 0) 1 1 Try.underlying22 hi hz0 hz1 hz2 rfl (by decide) _ _ _ rfl (hown2.alloc _) ⟨w2.heap.size, 0, none⟩ 1 1 [.int .u8 x] rfl rfl (cell_one_new _ _ _) (one_byte _) ?_ ?_ ?_ ?_)
      · unfold maxLen; omega
      · omega
      · first | omega | (simp; omega)
      intro v' w3 hown' hgrow _
      have hgk : ∀ k, u5.ownBlock = some k → g ≤ k := fun k hk => by have := unhide HK k hk; omega
      have hb3 : Below g w w3 := (hb2.alloc (by omega) _).grown hgrow (by simp; omega) hgk
      have HCU3 := hide (((unhide HCU2).alloc _).row (fun e => by have := unhide HK g e; omega) hgrow)
      have HCO3 := hide (((unhide HCO2).alloc _).row (fun k hk => by have := unhide HK k hk; omega) hgrow)
      have hkp3 := (hkp2.trans (Kept.of_below (below_new w2 _))).trans ((Kept.of_grown hgrow).weak (T := fun k => k = g ∨ w.heap.size ≤ k) (fun k hk => .inr (unhide HK k hk)))
      have hown3 := own_snoc (c := UInt8.ofNat x.toNat) (by rw [toNat_ofNat_small _ (by omega)]; omega) hown'
      have HO3 := hide hown3
      clear hown' hgrow hown2 hown3
      go_wp2
      go_roundw
      case rel => exact ⟨i + 1, l ++ [UInt8.ofNat x.toNat], by go_num, by omega, by simp; exact unhide HL, unhide HO3, unhide HCU3, unhide HCO3, hb3, hkp3⟩
      case measure => simp [intOf]; omega
    · obtain rfl : i = n := by omega
      have hcv := convert_own wr 22 9 5 w.heap.size u5 l Try.underlying22 Try.underlying5 Try.underlying9 hown
      have HL := hide hll
      have HCU := hide hcu
      clear hown hcu hco hll
      go_wp2
      go_ret
      exact ⟨⟨⟨l.toArray⟩, rfl, by simp [ByteArray.size]; exact unhide HL⟩, unhide HCU, hkp.strip⟩
end Pg
end Go.Proofs.Yteaidpeifaeckaa
