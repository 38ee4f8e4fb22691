/-
  The document's own answer for one part, of any text from any place on.
-/
import Derived.Test.YtcllimfaoajapaaDoorTsRefPart
import Derived.Test.YtcllimfaoajapaaDoorTsTrim
namespace Go.Proofs.YtcllimfaoajapaaDoor.Ts
open Go.RowKit

theorem dec_zeros (l : List UInt8) : ∀ k : Nat, dec (l ++ List.replicate k 48) = dec l * 10 ^ k
  | 0 => by simp
  | k + 1 => by
    rw [List.replicate_succ', ← List.append_assoc, dec_snoc, dec_zeros l k, Nat.pow_succ, Nat.mul_assoc]; rfl
theorem dw_dw (p : UInt8 → Bool) : ∀ l : List UInt8, (l.dropWhile p).dropWhile p = l.dropWhile p
  | [] => rfl
  | a :: l => by
    by_cases ha : p a = true
    · simp [ha, dw_dw p l]
    · simp [ha]
theorem dw_of_tw (p : UInt8 → Bool) (l : List UInt8) (h : (l.takeWhile p).length = 0) : l.dropWhile p = l := by
  rw [← drop_tw, h]; rfl

/-- What is told of a part: its number (or -1, if that is too great), and the place behind it. -/
def PartRes (s : ByteArray) (i : Nat) (o : Option (Nat × List UInt8)) (x : Int × Int) : Prop := match o with
  | none => x = (0, -1)
  | some (v, r) => ∃ K : Nat, i < K ∧ K ≤ s.size ∧ (s.data.toList.drop K).dropWhile bl = r.dropWhile bl ∧ x = (if v ≤ 9223372036854775806 then (v : Int) else -1, (K : Int))

theorem part_link (s : ByteArray) (i n p2 m F n3 n4 u : Nat) (hp2 : p2 ≤ s.size) (hn : run dg s i = n) (hn0 : 0 < n) (hip : i + n ≤ p2) (hfr : fracOf ((s.data.toList.drop i).dropWhile dg) = some (F * 10 ^ (6 - m), s.data.toList.drop p2))
    (hn3 : run bl s p2 = n3) (hn4 : run lt s (p2 + n3) = n4) (hu : unitOf ((s.data.toList.drop (p2 + n3)).takeWhile lt) = u) :
    PartRes s i (partOf (s.data.toList.drop i)) (rres ((s.data.toList.drop i).takeWhile dg) (F * 10 ^ (6 - m)) u (if n4 = 0 then p2 else p2 + n3 + n4)) := by
  have hd3 := run_drop bl s p2
  rw [hn3] at hd3
  have hd4 := run_drop lt s (p2 + n3)
  rw [hn4, hd3] at hd4
  have hle3 := run_le bl s p2 hp2
  rw [hn3] at hle3
  have hle4 := run_le lt s (p2 + n3) hle3
  rw [hn4] at hle4
  have htw : (s.data.toList.drop i).takeWhile dg ≠ [] := by intro e; unfold run at hn; rw [e] at hn; simp at hn; omega
  rw [hd3] at hu
  unfold partOf
  rw [if_neg htw, hfr]
  show PartRes s i (if unitOf (((s.data.toList.drop p2).dropWhile bl).takeWhile lt) = 0 then none else some (_, ((s.data.toList.drop p2).dropWhile bl).dropWhile lt)) _
  rw [hu]
  unfold rres
  by_cases h0 : u = 0
  · rw [if_pos h0, if_pos h0]; rfl
  · rw [if_neg h0, if_neg h0]
    refine ⟨if n4 = 0 then p2 else p2 + n3 + n4, by split <;> omega, by split <;> omega, ?_, ?_⟩
    · by_cases h4 : n4 = 0
      · rw [if_pos h4]
        have : (((s.data.toList.drop p2).dropWhile bl).takeWhile lt).length = 0 := by rw [← hd3]; exact hn4.trans h4
        rw [dw_of_tw lt _ this, dw_dw]
      · rw [if_neg h4, hd4]
    · split <;> rfl

/-- One part, of any text from any place on. -/
theorem rpart_any (s : ByteArray) (i : Nat) (hs : s.size ≤ 9223372036854775807) (hi : i ≤ s.size) :
    ∃ x : Int × Int, PartRes s i (partOf (s.data.toList.drop i)) x ∧ ∀ w, Calls Tryd.prog 18 #[.string s, .int .i64 (i : Int)] w fun e w' => e = .returned (.tuple #[.int .i64 x.1, .int .i64 x.2]) ∧ w = w' := by
  by_cases hn : run dg s i = 0
  · refine ⟨(0, -1), ?_, fun w => rpart_bare s i w hn⟩
    have : (s.data.toList.drop i).takeWhile dg = [] := List.length_eq_zero_iff.mp hn
    unfold partOf
    rw [if_pos this]; rfl
  · have hn0 : 0 < run dg s i := by omega
    have hle := run_le dg s i hi
    have hdr := run_drop dg s i
    by_cases hdot : ∃ h : i + run dg s i < s.size, s[i + run dg s i] = 46
    · obtain ⟨hlt, hd⟩ := hdot
      have hcons := drop_cons s (i + run dg s i) hlt
      rw [hd] at hcons
      have hle2 := run_le dg s (i + run dg s i + 1) (by omega)
      have hfd := fracOf_dot (s.data.toList.drop (i + run dg s i + 1))
      rw [← hcons, hdr] at hfd
      by_cases hbad : run dg s (i + run dg s i + 1) = 0 ∨ 6 < run dg s (i + run dg s i + 1)
      · refine ⟨(0, -1), ?_, fun w => rpart_nofrac s i _ _ w hs hi rfl hn0 hlt hd rfl hbad⟩
        have htw : (s.data.toList.drop i).takeWhile dg ≠ [] := by intro e; unfold run at hn; rw [e] at hn; simp at hn
        rw [if_pos (by rcases hbad with h | h; exact .inl (List.length_eq_zero_iff.mp h); exact .inr h)] at hfd
        unfold partOf
        rw [if_neg htw, hfd]; rfl
      · rw [if_neg (by rintro (h | h); exact hbad (.inl (List.length_eq_zero_iff.mpr h)); exact hbad (.inr h)), ← run_drop dg s (i + run dg s i + 1), dec_zeros] at hfd
        have hm6 : run dg s (i + run dg s i + 1) ≤ 6 := by omega
        have hF := six_dec _ ((s.data.toList.drop (i + run dg s i + 1)).takeWhile dg) rfl (fun c hc => tw_all dg _ c hc)
        refine ⟨_, part_link s i _ (i + run dg s i + 1 + run dg s (i + run dg s i + 1)) (run dg s (i + run dg s i + 1)) _ _ _ _ (by omega) rfl hn0 (by omega) hfd rfl rfl rfl, fun w =>
          rpart_mid s i _ _ _ _ _ _ _ w hs hi rfl hn0 (.inr ⟨⟨hlt, hd⟩, rfl, by omega, hm6, rfl, rfl⟩) (by omega) hm6 hF rfl rfl rfl _ rfl⟩
    · have hnd : ∀ h : i + run dg s i < s.size, s[i + run dg s i] ≠ 46 := fun h e => hdot ⟨h, e⟩
      have hfd : fracOf ((s.data.toList.drop i).dropWhile dg) = some (0 * 10 ^ (6 - 0), s.data.toList.drop (i + run dg s i)) := by
        rw [← hdr]
        by_cases hlt : i + run dg s i < s.size
        · rw [drop_cons s _ hlt]; simpa using fracOf_else (hnd hlt) _
        · rw [List.drop_eq_nil_of_le (by rw [← size_of]; omega)]; simpa using fracOf_nil
      exact ⟨_, part_link s i _ (i + run dg s i) 0 0 _ _ _ hle rfl hn0 (Nat.le_refl _) hfd rfl rfl rfl, fun w =>
        rpart_mid s i _ _ 0 0 _ _ _ w hs hi rfl hn0 (.inl ⟨hnd, rfl, rfl, rfl⟩) hle (by omega) (by omega) rfl rfl rfl _ rfl⟩
end Go.Proofs.YtcllimfaoajapaaDoor.Ts
