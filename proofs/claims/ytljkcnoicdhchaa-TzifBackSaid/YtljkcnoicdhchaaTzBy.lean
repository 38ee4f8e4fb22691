/-
  Layer 6 (tzif): Parse of the bytes that are put, cut, and with more behind.
-/
import Derived.Test.YtljkcnoicdhchaaTzBx
import Derived.Test.YtljkcnoicdhchaaTzBr
import Derived.Test.YtljkcnoicdhchaaTzBo
import Derived.Test.YtljkcnoicdhchaaTzBu
import Derived.Test.YtljkcnoicdhchaaTzBw
namespace Go.Proofs.Ytljkcnoicdhchaa.Tz
open Go.RowKit

/-- parse of these bytes says false. -/
def NoP (B : Nat) (m : Int) (l : List Nat) : Prop := ∀ (V : World) (g : Nat), Rd V B g l → V.cell? ⟨0, 0, none⟩ = some (.int .i64 m) → Calls Try.prog 39 #[.pointer (some ⟨g, 0, none⟩)] V fun e w' => ∃ A1 n1 c1 A2 n2 c2 A3 n3 c3 F, e = .returned (.tuple #[.agg #[.slice A1 n1 c1, .slice A2 n2 c2, .slice A3 n3 c3, .string F], .bool false]) ∧ V.grownBy w' (some g)
theorem nop_of {B : Nat} {m : Int} {l : List Nat} (h : ∀ (V : World) (g : Nat), Rd V B g l → V.cell? ⟨0, 0, none⟩ = some (.int .i64 m) → Calls Try.prog 39 #[.pointer (some ⟨g, 0, none⟩)] V fun e w' => e = .returned (.tuple #[noZone, .bool false]) ∧ V.grownBy w' (some g)) : NoP B m l := fun V g hr hm => (h V g hr hm).mono fun _ _ ⟨he, hg⟩ => ⟨none, 0, 0, none, 0, 0, none, 0, 0, ⟨#[]⟩, he, hg⟩
section
variable {B : Nat} {m : Int} {l : List Nat}
theorem nop_a (hb : ∀ b ∈ l, b < 256) (hq : hdGood l = false) : NoP B m l := nop_of fun V g hr _ => parse_a l B g V hr hb hq
theorem nop_b (hb : ∀ b ∈ l, b < 256) (hq : hdGood l = true) (hv : l.getD 4 0 ≠ 0) (hl : (l.drop 44).length < longN (hdOf l) 4) : NoP B m l := nop_of fun V g hr _ => parse_b l B g V hr hb hq hv (hdOk_bytes hb) hl
theorem nop_c (hb : ∀ b ∈ l, b < 256) (hq : hdGood l = true) (hv : l.getD 4 0 ≠ 0) (hl : longN (hdOf l) 4 ≤ (l.drop 44).length) (hq2 : hdGood ((l.drop 44).drop (longN (hdOf l) 4)) = false) : NoP B m l := nop_of fun V g hr _ => parse_c l B g V hr hb hq hv (hdOk_bytes hb) hl hq2
theorem drop_byt {l : List Nat} (hb : ∀ b ∈ l, b < 256) (k : Nat) : ∀ b ∈ l.drop k, b < 256 := fun b hx => hb b (List.mem_of_mem_drop hx)
/-- The second block has too few bytes. -/
theorem nop_d (hB : 0 < B) (hb : ∀ b ∈ l, b < 256) (hq : hdGood l = true) (hv : l.getD 4 0 ≠ 0) (hl : longN (hdOf l) 4 ≤ (l.drop 44).length) (hq2 : hdGood ((l.drop 44).drop (longN (hdOf l) 4)) = true)
    (hv2 : (hdOf ((l.drop 44).drop (longN (hdOf l) 4))).version = (hdOf l).version) (hm : mayB (hdOf ((l.drop 44).drop (longN (hdOf l) 4))) = true) (hs : (((l.drop 44).drop (longN (hdOf l) 4)).drop 44).length < longN (hdOf ((l.drop 44).drop (longN (hdOf l) 4))) 8) : NoP B m l :=
  nop_of fun V g hr h0 => parse_d l _ B g m V hr hB h0 hb hq hv (hdOk_bytes hb) hl hq2 hv2 rfl fun U hU _ =>
    (block_b _ 8 _ B g U hU (.inr rfl) (hdOk_bytes (drop_byt (drop_byt hb _) _)) hm hs).mono fun _ _ ⟨he, hbl⟩ => ⟨he, gb_below (World.grownBy.refl _ _) hbl⟩
theorem two_ok (hB : 0 < B) (hb : ∀ b ∈ l, b < 256) (hq : hdGood l = true) (hv : l.getD 4 0 ≠ 0) (hl : longN (hdOf l) 4 ≤ (l.drop 44).length) (l3 l4 l5 : List Nat) (h2 : Hd) (e3 : (l.drop 44).drop (longN (hdOf l) 4) = l3) (hq2 : hdGood l3 = true) (eh : hdOf l3 = h2)
    (hv2 : h2.version = (hdOf l).version) (hm : mayB h2 = true) (e4 : l3.drop 44 = l4) (hs : longN h2 8 ≤ l4.length) (z : Zn) (F : ByteArray) (fb : Bool) (e1 : timesL h2 8 val8 l4 = z.times) (e2 : indexL h2 8 l4 = z.index) (et : tysOf (lettersL h2 8 l4) (rowsL h2 8 l4) = some z.types) (e5 : l4.drop (longN h2 8) = l5) (hf : footV (footT l5) = .tuple #[.string F, .bool fb])
    (V : World) (g : Nat) (hr : Rd V B g l) (h0 : V.cell? ⟨0, 0, none⟩ = some (.int .i64 m)) :
    Calls Try.prog 39 #[.pointer (some ⟨g, 0, none⟩)] V fun e w' => ∃ vt vs vi, e = .returned (.tuple #[.agg #[vt, vs, vi, .string F], .bool fb]) ∧ ZnOwn w' (V.heap.size + 1) ⟨z.types, z.times, z.index, F⟩ vt vs vi ∧ V.grownBy w' (some g) := by
  subst e3 eh e4 e5
  exact parse_e l _ _ B g m V hr hB h0 hb hq hv (hdOk_bytes hb) hl hq2 hv2 rfl ⟨z.types, z.times, z.index, ⟨#[]⟩⟩ F fb hf fun U hU hU0 =>
    (block_8 _ _ B g m U hU (hdOk_bytes (drop_byt (drop_byt hb _) _)) hm hs (drop_byt (drop_byt (drop_byt hb _) _) _) hB hU0).mono fun e w' ⟨_, h1, h2⟩ => by
      obtain ⟨vt, vs, vi, he, hz, hrd⟩ := h1 _ et
      rw [e1, e2] at hz
      exact ⟨vt, vs, vi, he, hz, hrd, h2⟩
end
theorem file_byt {z : Zn} {mid tail : List Nat} (hm : ∀ b ∈ mid, b < 256) (ht : ∀ b ∈ tail, b < 256) : ∀ b ∈ fileL z mid tail, b < 256 := by
  have h1 : Byt (headB hd1) := by unfold Byt; decide
  have h2 : Byt (headB (hd2 z)) := by
    have a : Byt magicB := by unfold Byt; decide
    have b : Byt (zerosB 15) := by unfold Byt; decide
    have c : Byt ((hd2 z).counts.flatMap fun n => digs n 4) := by
      intro x hx
      obtain ⟨n, _, hn⟩ := List.mem_flatMap.1 hx
      exact digs_byt n 4 x hn
    exact a.app (Byt.app (by intro x hx; simp [hd2] at hx; omega) (b.app c))
  have h3 : Byt (timesB z.times) := by
    intro x hx
    obtain ⟨n, _, hn⟩ := List.mem_flatMap.1 hx
    exact digs_byt _ 8 x hn
  have h4 : Byt (indexB z.index) := by
    intro x hx
    obtain ⟨n, _, rfl⟩ := List.mem_map.1 hx
    omega
  intro b hb
  unfold fileL l3L bodyL at hb
  simp only [List.mem_append] at hb
  rcases hb with h | h | h | h | h | h | h | h
  · exact h1.lt b h
  · exact hm b h
  · exact h2.lt b h
  · exact h3.lt b h
  · exact h4.lt b h
  · exact (typesB_byt _ _).lt b h
  · exact (lettersB_byt _).lt b h
  · exact ht b h
section
variable {z : Zn} {mid tail : List Nat} {B : Nat} {m : Int}
theorem parse_file (hr : rightZ z = true) (hz : ∀ t ∈ z.times, -9223372036854775808 ≤ t ∧ t ≤ 9223372036854775807) (hm7 : mid.length = 7) (hmb : ∀ b ∈ mid, b < 256) (htb : ∀ b ∈ tail, b < 256) (hB : 0 < B) (F : ByteArray) (fb : Bool) (hf : footV (footT tail) = .tuple #[.string F, .bool fb]) (V : World) (g : Nat) (hrd : Rd V B g (fileL z mid tail)) (h0 : V.cell? ⟨0, 0, none⟩ = some (.int .i64 m)) :
    Calls Try.prog 39 #[.pointer (some ⟨g, 0, none⟩)] V fun e w' => ∃ vt vs vi, e = .returned (.tuple #[.agg #[vt, vs, vi, .string F], .bool fb]) ∧ ZnOwn w' (V.heap.size + 1) ⟨z.types, z.times, z.index, F⟩ vt vs vi ∧ V.grownBy w' (some g) := by
  obtain ⟨a1, a2, a3, a4, a5, a6⟩ := file_first z mid tail hm7
  obtain ⟨b1, b2, b3⟩ := l3_read hr tail
  have e4 : restN (hd2 z) 8 = 0 := rfl
  obtain ⟨c1, c2, c3, c4⟩ := body_read (h := hd2 z) (wd := 8) (val := val8) hr rfl rfl rfl e4 (timesB_len z.times) (fun r => vals_times8 z.times r hz) tail
  have hlen := body_len (h := hd2 z) (wd := 8) hr rfl rfl rfl e4 (timesB_len z.times) tail
  refine two_ok hB (file_byt hmb htb) a1 (by rw [a2]; omega) (by rw [a4, a5, List.length_append]; omega) (l3L z tail) (bodyL (timesB z.times) z tail) tail (hd2 z) a6 b1 b2 (by rw [a3]; rfl) (hd2_may hr) b3 (by omega) z F fb c1 c2 c3 c4 hf V g hrd h0
theorem nop_foot (hr : rightZ z = true) (hz : ∀ t ∈ z.times, -9223372036854775808 ≤ t ∧ t ≤ 9223372036854775807) (hm7 : mid.length = 7) (hmb : ∀ b ∈ mid, b < 256) (htb : ∀ b ∈ tail, b < 256) (hB : 0 < B) (hf : footT tail = none) : NoP B m (fileL z mid tail) := fun V g hrd h0 =>
  (parse_file hr hz hm7 hmb htb hB ⟨#[]⟩ false (by rw [hf]; rfl) V g hrd h0).mono fun e w' ⟨vt, vs, vi, he, hzo, hg⟩ => by
    obtain ⟨A1, c1, rfl⟩ := hzo.types.form
    obtain ⟨A2, c2, rfl⟩ := hzo.times.form
    obtain ⟨A3, c3, rfl⟩ := hzo.index.form
    exact ⟨A1, _, c1, A2, _, c2, A3, _, c3, ⟨#[]⟩, he, hg⟩
end
theorem good_short {l : List Nat} (h : l.length < 44) : hdGood l = false := by
  unfold hdGood
  rw [decide_eq_false (by omega : ¬ 44 ≤ l.length)]
  rfl
/-- A file that is put, cut off somewhere. -/
theorem nop_cut {z : Zn} {B : Nat} {m : Int} (hr : rightZ z = true) (hz : ∀ t ∈ z.times, -9223372036854775808 ≤ t ∧ t ≤ 9223372036854775807) (hB : 0 < B) (k : Nat) (hk : k < (nats (putB z)).length) : NoP B m ((nats (putB z)).take k) := by
  have hfo : onlyB z.footer 32 = true := by
    unfold rightZ at hr
    simp only [Bool.and_eq_true] at hr
    exact hr.2
  rw [put_file] at hk ⊢
  obtain ⟨tail, htl⟩ : ∃ tail, nats ([10] ++ bytesOf z.footer ++ [10]) = tail := ⟨_, rfl⟩
  obtain ⟨mid, hmd⟩ : ∃ mid, nats (zerosB 7) = mid := ⟨_, rfl⟩
  have hm7 : mid.length = 7 := by rw [← hmd]; rfl
  have hmb : ∀ b ∈ mid, b < 256 := by rw [← hmd]; decide
  have htb : ∀ b ∈ tail, b < 256 := by
    rw [← htl]
    exact Byt.lt (((show Byt [10] by unfold Byt; decide).app (bytesOf_byt _)).app (by unfold Byt; decide))
  have htn : tail.length = z.footer.size + 2 := by rw [← htl, nats_len]; simp [bytesOf_len]
  rw [htl, hmd] at hk ⊢
  have hb := file_byt (z := z) hmb htb
  have hbk : ∀ b ∈ (fileL z mid tail).take k, b < 256 := fun b hx => hb b (List.mem_of_mem_take hx)
  have hlen := body_len (h := hd2 z) (wd := 8) hr rfl rfl rfl rfl (timesB_len z.times) tail
  have hL : (fileL z mid tail).length = 95 + longN (hd2 z) 8 + tail.length := by
    unfold fileL l3L
    simp only [List.length_append, nats_len, headB_len, hlen, hm7]; omega
  by_cases k1 : k < 44
  · exact nop_a hbk (good_short (by rw [List.length_take]; omega))
  · have e1 : (fileL z mid tail).take k = nats (headB hd1) ++ (mid ++ l3L z tail).take (k - 44) := by
      unfold fileL
      rw [List.take_append, List.take_of_length_le (by rw [nats_len, headB_len]; omega), nats_len, headB_len]
    rw [e1] at hbk ⊢
    obtain ⟨q1, _, q3⟩ := hd_read hd1 hd1_small ((mid ++ l3L z tail).take (k - 44))
    have q4 := hd_good hd1 hd1_small (.inr (.inl rfl)) ((mid ++ l3L z tail).take (k - 44))
    have q5 := hd_drop hd1 ((mid ++ l3L z tail).take (k - 44))
    have q6 : longN hd1 4 = 7 := rfl
    have qv : (nats (headB hd1) ++ (mid ++ l3L z tail).take (k - 44)).getD 4 0 ≠ 0 := by rw [q3]; decide
    have hll : (mid ++ l3L z tail).length = 51 + longN (hd2 z) 8 + tail.length := by
      unfold l3L
      simp only [List.length_append, nats_len, headB_len, hlen, hm7]; omega
    by_cases k2 : k < 51
    · refine nop_b hbk q4 qv ?_
      rw [q5, q1, q6, List.length_take]; omega
    · have e2 : (mid ++ l3L z tail).take (k - 44) = mid ++ (l3L z tail).take (k - 51) := by
        rw [List.take_append, List.take_of_length_le (by omega), hm7, show k - 44 - 7 = k - 51 by omega]
      have q7 : ((nats (headB hd1) ++ (mid ++ l3L z tail).take (k - 44)).drop 44).drop (longN (hdOf (nats (headB hd1) ++ (mid ++ l3L z tail).take (k - 44))) 4) = (l3L z tail).take (k - 51) := by
        rw [q5, q1, q6, e2]; exact List.drop_left' hm7
      have qn : longN (hdOf (nats (headB hd1) ++ (mid ++ l3L z tail).take (k - 44))) 4 ≤ ((nats (headB hd1) ++ (mid ++ l3L z tail).take (k - 44)).drop 44).length := by
        rw [q5, q1, q6, List.length_take]; omega
      by_cases k3 : k < 95
      · refine nop_c hbk q4 qv qn ?_
        rw [q7]
        exact good_short (by rw [List.length_take]; omega)
      · have e3 : (l3L z tail).take (k - 51) = nats (headB (hd2 z)) ++ (bodyL (timesB z.times) z tail).take (k - 95) := by
          unfold l3L
          rw [List.take_append, List.take_of_length_le (by rw [nats_len, headB_len]; omega), nats_len, headB_len, show k - 51 - 44 = k - 95 by omega]
        obtain ⟨r1, _, _⟩ := hd_read (hd2 z) (hd2_small hr) ((bodyL (timesB z.times) z tail).take (k - 95))
        have r4 := hd_good (hd2 z) (hd2_small hr) (.inr (.inl rfl)) ((bodyL (timesB z.times) z tail).take (k - 95))
        have r5 := hd_drop (hd2 z) ((bodyL (timesB z.times) z tail).take (k - 95))
        by_cases k4 : k - 95 < longN (hd2 z) 8
        · refine nop_d hB hbk q4 qv qn ?_ ?_ ?_ ?_
          · rw [q7, e3]; exact r4
          · rw [q7, e3, r1, q1]; rfl
          · rw [q7, e3, r1]; exact hd2_may hr
          · rw [q7, e3, r1, r5, List.length_take]; omega
        · have e4 : (bodyL (timesB z.times) z tail).take (k - 95) = bodyL (timesB z.times) z (tail.take (k - 95 - longN (hd2 z) 8)) := by
            have ea : ∀ t, bodyL (timesB z.times) z t = bodyL (timesB z.times) z [] ++ t := fun t => by unfold bodyL; simp
            have el := body_len (h := hd2 z) (wd := 8) hr rfl rfl rfl rfl (timesB_len z.times) []
            rw [ea tail, ea (tail.take _), List.take_append, List.take_of_length_le (by rw [el]; simp; omega), el]
            rfl
          have e5 : nats (headB hd1) ++ (mid ++ l3L z tail).take (k - 44) = fileL z mid (tail.take (k - 95 - longN (hd2 z) 8)) := by
            rw [e2, e3, e4]; rfl
          rw [e5]
          refine nop_foot hr hz hm7 hmb (fun b hx => htb b (List.mem_of_mem_take hx)) hB ?_
          rw [← htl]
          exact foot_cut hfo _ (by omega)
end Go.Proofs.Ytljkcnoicdhchaa.Tz
