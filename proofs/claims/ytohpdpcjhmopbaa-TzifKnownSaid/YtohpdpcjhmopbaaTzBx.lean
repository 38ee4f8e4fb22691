/-
  TzBx, TzBy, TzBz, one behind the other.
-/
import Derived.Test.YtohpdpcjhmopbaaTzMg
import Derived.Test.YtohpdpcjhmopbaaTzBr
import Derived.Test.YtohpdpcjhmopbaaTzBt
/-! Layer 6 (tzif): the bytes of a file, as the reader takes them apart (plain). -/
namespace Go.Proofs.Ytohpdpcjhmopbaa.Tz
open Go.RowKit

theorem be_take_lt {l : List Nat} (hb : ∀ b ∈ l, b < 256) (i : Nat) : be ((l.drop i).take 4) ≤ 4294967295 := by
  have h1 := be_lt (l := (l.drop i).take 4) (fun b hx => hb b (List.mem_of_mem_drop (List.mem_of_mem_take hx)))
  have h2 : ((l.drop i).take 4).length ≤ 4 := by rw [List.length_take]; omega
  have h3 : 256 ^ ((l.drop i).take 4).length ≤ 256 ^ 4 := Nat.pow_le_pow_right (by omega) h2
  omega
theorem hdOk_bytes {l : List Nat} (hb : ∀ b ∈ l, b < 256) : HdOk (hdOf l) :=
  ⟨be_take_lt hb 20, be_take_lt hb 24, be_take_lt hb 28, be_take_lt hb 32, be_take_lt hb 36, be_take_lt hb 40⟩
/-- What stands behind a block's head. -/
def bodyL (tb : List Int) (z : Zn) (tail : List Nat) : List Nat := nats tb ++ (nats (indexB z.index) ++ (nats (typesB z.types 0) ++ (nats (lettersB z.types) ++ tail)))
def l3L (z : Zn) (tail : List Nat) : List Nat := nats (headB (hd2 z)) ++ bodyL (timesB z.times) z tail
def fileL (z : Zn) (mid tail : List Nat) : List Nat := nats (headB hd1) ++ (mid ++ l3L z tail)
theorem put_file (z : Zn) : nats (putB z) = fileL z (nats (zerosB 7)) (nats ([10] ++ bytesOf z.footer ++ [10])) := by
  unfold putB topB fileL l3L bodyL
  simp only [nats_app, List.append_assoc]
theorem indexB_len (l : List Int) : (indexB l).length = l.length := by unfold indexB; rw [List.length_map]
theorem body_len {z : Zn} {h : Hd} {wd : Nat} {tb : List Int} (hr : rightZ z = true) (e1 : h.times = z.times.length) (e2 : h.types = z.types.length) (e3 : h.letters = letters z.types) (e4 : restN h wd = 0) (hlen : tb.length = wd * z.times.length) (tail : List Nat) : (bodyL tb z tail).length = longN h wd + tail.length := by
  obtain ⟨_, _, _, b4, _⟩ := right_all hr
  unfold bodyL longN
  simp only [List.length_append, nats_len, indexB_len, typesB_len, lettersB_len]
  rw [e1, e2, e3, e4, hlen, b4, Nat.mul_add, Nat.mul_comm wd]
  omega
theorem body_read {z : Zn} {h : Hd} {wd : Nat} {val : List Nat → Int} {tb : List Int} (hr : rightZ z = true) (e1 : h.times = z.times.length) (e2 : h.types = z.types.length) (e3 : h.letters = letters z.types) (e4 : restN h wd = 0) (hlen : tb.length = wd * z.times.length) (hv : ∀ r, vals wd val z.times.length (nats tb ++ r) = z.times) (tail : List Nat) :
    timesL h wd val (bodyL tb z tail) = z.times ∧ indexL h wd (bodyL tb z tail) = z.index ∧ tysOf (lettersL h wd (bodyL tb z tail)) (rowsL h wd (bodyL tb z tail)) = some z.types ∧ (bodyL tb z tail).drop (longN h wd) = tail := by
  obtain ⟨_, _, _, b4, b5, _, b7, b8⟩ := right_all hr
  have ht : ∀ t ∈ z.types, rightTy t = true := by
    unfold rightZ rightTys at hr
    simp only [Bool.and_eq_true, List.all_eq_true] at hr
    exact hr.1.1.1.1.1.1.2
  have d1 : (bodyL tb z tail).drop (wd * z.times.length) = nats (indexB z.index) ++ (nats (typesB z.types 0) ++ (nats (lettersB z.types) ++ tail)) := List.drop_left' (by rw [nats_len, hlen])
  have d2 : ((bodyL tb z tail).drop (wd * z.times.length)).drop (1 * z.times.length) = nats (typesB z.types 0) ++ (nats (lettersB z.types) ++ tail) := by
    rw [d1]; exact List.drop_left' (by rw [nats_len, indexB_len, b4, Nat.one_mul])
  have d3 : (((bodyL tb z tail).drop (wd * z.times.length)).drop (1 * z.times.length)).drop (6 * z.types.length) = nats (lettersB z.types) ++ tail := by
    rw [d2]; exact List.drop_left' (by rw [nats_len, typesB_len])
  refine ⟨?_, ?_, ?_, ?_⟩
  · unfold timesL; rw [e1]; exact hv _
  · unfold indexL
    rw [e1, d1, ← b4]
    exact vals_index z.index _ b8
  · unfold lettersL rowsL
    rw [e1, e2, e3, d3, d2, List.take_left' (by rw [nats_len, lettersB_len]), rws_read z.types 0 _ (fun t hx => (b7 t hx).2)]
    have := tys_back z.types [] [] ht (by simpa using b5)
    simpa using this
  · have e : longN h wd = wd * z.times.length + (1 * z.times.length + (6 * z.types.length + letters z.types)) := by
      unfold longN; rw [e1, e2, e3, e4, Nat.mul_add, Nat.mul_comm wd]; omega
    rw [e, ← List.drop_drop, ← List.drop_drop, ← List.drop_drop, d3]
    exact List.drop_left' (by rw [nats_len, lettersB_len])
theorem hd2_small {z : Zn} (hr : rightZ z = true) : ∀ n ∈ (hd2 z).counts, n < 4294967296 := by
  obtain ⟨b1, _, b3, _, b5, _⟩ := right_all hr
  intro n hn
  simp only [hd2, Hd.counts, List.mem_cons, List.not_mem_nil, or_false] at hn
  omega
theorem hd1_small : ∀ n ∈ hd1.counts, n < 4294967296 := by decide
theorem hd2_may {z : Zn} (hr : rightZ z = true) : mayB (hd2 z) = true := by
  obtain ⟨b1, b2, b3, _, b5, _⟩ := right_all hr
  have := letters_pos (l := z.types) b2
  unfold mayB inI hd2
  simp
  omega
/-- The first head and block of a file. -/
theorem file_first (z : Zn) (mid tail : List Nat) (hm : mid.length = 7) : hdGood (fileL z mid tail) = true ∧ (fileL z mid tail).getD 4 0 = 50 ∧ hdOf (fileL z mid tail) = hd1 ∧ longN (hdOf (fileL z mid tail)) 4 = 7 ∧ (fileL z mid tail).drop 44 = mid ++ l3L z tail ∧ ((fileL z mid tail).drop 44).drop (longN (hdOf (fileL z mid tail)) 4) = l3L z tail := by
  obtain ⟨a, _, c⟩ := hd_read hd1 hd1_small (mid ++ l3L z tail)
  have hg := hd_good hd1 hd1_small (.inr (.inl rfl)) (mid ++ l3L z tail)
  have hd : (fileL z mid tail).drop 44 = mid ++ l3L z tail := hd_drop hd1 _
  have hN : longN (hdOf (fileL z mid tail)) 4 = 7 := by unfold fileL; rw [a]; rfl
  exact ⟨hg, c, a, hN, hd, by rw [hN, hd]; exact List.drop_left' hm⟩
theorem l3_read {z : Zn} (hr : rightZ z = true) (tail : List Nat) : hdGood (l3L z tail) = true ∧ hdOf (l3L z tail) = hd2 z ∧ (l3L z tail).drop 44 = bodyL (timesB z.times) z tail := by
  obtain ⟨a, _, _⟩ := hd_read (hd2 z) (hd2_small hr) (bodyL (timesB z.times) z tail)
  exact ⟨hd_good (hd2 z) (hd2_small hr) (.inr (.inl rfl)) _, a, hd_drop (hd2 z) _⟩
/-! ### Footers -/
theorem foot_yes (f : ByteArray) : footT (nats ([10] ++ bytesOf f ++ [10])) = some (nats (bytesOf f)) := by
  have e : nats ([10] ++ bytesOf f ++ [10]) = 10 :: (nats (bytesOf f) ++ [10]) := by simp only [nats_app, List.append_assoc]; rfl
  rw [e]
  unfold footT
  have hl : (10 :: (nats (bytesOf f) ++ [10])).length = (nats (bytesOf f)).length + 2 := by simp
  rw [if_pos ⟨by omega, rfl, by rw [hl]; simp⟩, hl]
  simp
/-- A footer that is cut, or goes on, is none. -/
theorem foot_cut {f : ByteArray} (hf : onlyB f 32 = true) (k : Nat) (hk : k < f.size + 2) : footT ((nats ([10] ++ bytesOf f ++ [10])).take k) = none := by
  have e : nats ([10] ++ bytesOf f ++ [10]) = 10 :: (nats (bytesOf f) ++ [10]) := by simp only [nats_app, List.append_assoc]; rfl
  have hbl : (nats (bytesOf f)).length = f.size := by rw [nats_len, bytesOf_len]
  have hno : ∀ x ∈ nats (bytesOf f), x ≠ 10 := by
    intro x hx
    obtain ⟨y, hy, rfl⟩ := List.mem_map.1 hx
    unfold bytesOf at hy
    obtain ⟨b, hb, rfl⟩ := List.mem_map.1 hy
    unfold onlyB at hf
    have := List.all_eq_true.1 hf b hb
    unfold inI at this
    simp only [Bool.and_eq_true, decide_eq_true_eq] at this
    omega
  rw [e]
  unfold footT
  rw [if_neg]
  rintro ⟨h1, _, h3⟩
  match k, hk, h1, h3 with
  | 0, _, h1, _ => simp at h1
  | k + 1, hk, h1, h3 =>
    rw [List.take_succ_cons] at h1 h3
    have hk2 : k ≤ (nats (bytesOf f)).length := by omega
    rw [List.take_append_of_le_length hk2] at h1 h3
    have hl : (10 :: (nats (bytesOf f)).take k).length = k + 1 := by simp; omega
    rw [hl] at h1 h3
    obtain ⟨j, rfl⟩ : ∃ j, k = j + 1 := ⟨k - 1, by omega⟩
    rw [show j + 1 + 1 - 1 = j + 1 by omega, List.getElem?_cons_succ] at h3
    exact hno 10 (List.mem_of_mem_take (List.mem_of_getElem? h3)) rfl
theorem foot_more (f : ByteArray) : footT (nats ([10] ++ bytesOf f ++ [10]) ++ [0]) = none := by
  unfold footT
  rw [if_neg]
  rintro ⟨_, _, h3⟩
  rw [List.length_append, List.getElem?_append_right (by simp)] at h3
  simp at h3
end Go.Proofs.Ytohpdpcjhmopbaa.Tz

/-! Layer 6 (tzif): Parse of the bytes that are put, cut, and with more behind. -/
namespace Go.Proofs.Ytohpdpcjhmopbaa.Tz
open Go.RowKit

/-- parse of these bytes says false. -/
def NoP (B : Nat) (m : Int) (l : List Nat) : Prop := ∀ (V : World) (g : Nat), Rd V B g l → V.cell? ⟨0, 0, none⟩ = some (.int .i64 m) → Calls Try.prog 39 #[.pointer (some ⟨g, 0, none⟩)] V fun e w' => ∃ A1 n1 c1 A2 n2 c2 A3 n3 c3 F, e = .returned (.tuple #[.agg #[.slice A1 n1 c1, .slice A2 n2 c2, .slice A3 n3 c3, .string F], .bool false]) ∧ V.grownBy w' (some g)
theorem nop_of {B : Nat} {m : Int} {l : List Nat} (h : ∀ (V : World) (g : Nat), Rd V B g l → V.cell? ⟨0, 0, none⟩ = some (.int .i64 m) → Calls Try.prog 39 #[.pointer (some ⟨g, 0, none⟩)] V fun e w' => e = .returned (.tuple #[noZone, .bool false]) ∧ V.grownBy w' (some g)) : NoP B m l := fun V g hr hm => (h V g hr hm).mono fun _ _ ⟨he, hg⟩ => ⟨none, 0, 0, none, 0, 0, none, 0, 0, ⟨#[]⟩, he, hg⟩
section
variable {B : Nat} {m : Int} {l : List Nat}
theorem nop_a (hb : ∀ b ∈ l, b < 256) (hq : hdGood l = false) : NoP B m l := nop_of fun V g hr _ => parse_a l B g V hr hb hq
theorem nop_b (hb : ∀ b ∈ l, b < 256) (hq : hdGood l = true) (hv : l.getD 4 0 ≠ 0) (hl : (l.drop 44).length < longN (hdOf l) 4) : NoP B m l := nop_of fun V g hr _ => parse_b l B g V hr hb hq hv (hdOk_bytes hb) hl
theorem nop_c (hb : ∀ b ∈ l, b < 256) (hq : hdGood l = true) (hv : l.getD 4 0 ≠ 0) (hl : longN (hdOf l) 4 ≤ (l.drop 44).length) (hq2 : hdGood ((l.drop 44).drop (longN (hdOf l) 4)) = false) : NoP B m l := nop_of fun V g hr _ => parse_c l B g V hr hb hq hv (hdOk_bytes hb) hl hq2
theorem drop_byt {l : List Nat} (hb : ∀ b ∈ l, b < 256) (k : Nat) : ∀ b ∈ l.drop k, b < 256 := fun b hx => hb b (List.mem_of_mem_drop hx)
/-- The second block has too few bytes. -/
theorem nop_d (hB : 0 < B) (hb : ∀ b ∈ l, b < 256) (hq : hdGood l = true) (hv : l.getD 4 0 ≠ 0) (hl : longN (hdOf l) 4 ≤ (l.drop 44).length) (hq2 : hdGood ((l.drop 44).drop (longN (hdOf l) 4)) = true)
    (hv2 : (hdOf ((l.drop 44).drop (longN (hdOf l) 4))).version = (hdOf l).version) (hm : mayB (hdOf ((l.drop 44).drop (longN (hdOf l) 4))) = true) (hs : (((l.drop 44).drop (longN (hdOf l) 4)).drop 44).length < longN (hdOf ((l.drop 44).drop (longN (hdOf l) 4))) 8) : NoP B m l :=
  nop_of fun V g hr h0 => parse_d l _ B g m V hr hB h0 hb hq hv (hdOk_bytes hb) hl hq2 hv2 rfl fun U hU _ =>
    (block_b _ 8 _ B g U hU (.inr rfl) (hdOk_bytes (drop_byt (drop_byt hb _) _)) hm hs).mono fun _ _ ⟨he, hbl⟩ => ⟨he, gb_below (World.grownBy.refl _ _) hbl⟩
theorem two_ok (hB : 0 < B) (hb : ∀ b ∈ l, b < 256) (hq : hdGood l = true) (hv : l.getD 4 0 ≠ 0) (hl : longN (hdOf l) 4 ≤ (l.drop 44).length) (l3 l4 l5 : List Nat) (h2 : Hd) (e3 : (l.drop 44).drop (longN (hdOf l) 4) = l3) (hq2 : hdGood l3 = true) (eh : hdOf l3 = h2)
    (hv2 : h2.version = (hdOf l).version) (hm : mayB h2 = true) (e4 : l3.drop 44 = l4) (hs : longN h2 8 ≤ l4.length) (z : Zn) (F : ByteArray) (fb : Bool) (e1 : timesL h2 8 val8 l4 = z.times) (e2 : indexL h2 8 l4 = z.index) (et : tysOf (lettersL h2 8 l4) (rowsL h2 8 l4) = some z.types) (e5 : l4.drop (longN h2 8) = l5) (hf : footV (footT l5) = .tuple #[.string F, .bool fb])
    (V : World) (g : Nat) (hr : Rd V B g l) (h0 : V.cell? ⟨0, 0, none⟩ = some (.int .i64 m)) :
    Calls Try.prog 39 #[.pointer (some ⟨g, 0, none⟩)] V fun e w' => ∃ vt vs vi, e = .returned (.tuple #[.agg #[vt, vs, vi, .string F], .bool fb]) ∧ ZnOwn w' (V.heap.size + 1) ⟨z.types, z.times, z.index, F⟩ vt vs vi ∧ V.grownBy w' (some g) := by
  subst e3 eh e4 e5
  exact parse_e l _ _ B g m V hr hB h0 hb hq hv (hdOk_bytes hb) hl hq2 hv2 rfl ⟨z.types, z.times, z.index, ⟨#[]⟩⟩ F fb hf fun U hU hU0 =>
    (block_8 _ _ B g m U hU (hdOk_bytes (drop_byt (drop_byt hb _) _)) hm hs (drop_byt (drop_byt (drop_byt hb _) _) _) hB hU0).mono fun e w' ⟨_, h1, h2⟩ => by
      obtain ⟨vt, vs, vi, he, hz, hrd⟩ := h1 _ et
      rw [e1, e2] at hz
      exact ⟨vt, vs, vi, he, hz, hrd, h2⟩
end
theorem file_byt {z : Zn} {mid tail : List Nat} (hm : ∀ b ∈ mid, b < 256) (ht : ∀ b ∈ tail, b < 256) : ∀ b ∈ fileL z mid tail, b < 256 := by
  have h1 : Byt (headB hd1) := by unfold Byt; decide
  have h2 : Byt (headB (hd2 z)) := by
    have a : Byt magicB := by unfold Byt; decide
    have b : Byt (zerosB 15) := by unfold Byt; decide
    have c : Byt ((hd2 z).counts.flatMap fun n => digs n 4) := by
      intro x hx
      obtain ⟨n, _, hn⟩ := List.mem_flatMap.1 hx
      exact digs_byt n 4 x hn
    exact a.app (Byt.app (by intro x hx; simp [hd2] at hx; omega) (b.app c))
  have h3 : Byt (timesB z.times) := by
    intro x hx
    obtain ⟨n, _, hn⟩ := List.mem_flatMap.1 hx
    exact digs_byt _ 8 x hn
  have h4 : Byt (indexB z.index) := by
    intro x hx
    obtain ⟨n, _, rfl⟩ := List.mem_map.1 hx
    omega
  intro b hb
  unfold fileL l3L bodyL at hb
  simp only [List.mem_append] at hb
  rcases hb with h | h | h | h | h | h | h | h
  · exact h1.lt b h
  · exact hm b h
  · exact h2.lt b h
  · exact h3.lt b h
  · exact h4.lt b h
  · exact (typesB_byt _ _).lt b h
  · exact (lettersB_byt _).lt b h
  · exact ht b h
section
variable {z : Zn} {mid tail : List Nat} {B : Nat} {m : Int}
theorem parse_file (hr : rightZ z = true) (hz : ∀ t ∈ z.times, -9223372036854775808 ≤ t ∧ t ≤ 9223372036854775807) (hm7 : mid.length = 7) (hmb : ∀ b ∈ mid, b < 256) (htb : ∀ b ∈ tail, b < 256) (hB : 0 < B) (F : ByteArray) (fb : Bool) (hf : footV (footT tail) = .tuple #[.string F, .bool fb]) (V : World) (g : Nat) (hrd : Rd V B g (fileL z mid tail)) (h0 : V.cell? ⟨0, 0, none⟩ = some (.int .i64 m)) :
    Calls Try.prog 39 #[.pointer (some ⟨g, 0, none⟩)] V fun e w' => ∃ vt vs vi, e = .returned (.tuple #[.agg #[vt, vs, vi, .string F], .bool fb]) ∧ ZnOwn w' (V.heap.size + 1) ⟨z.types, z.times, z.index, F⟩ vt vs vi ∧ V.grownBy w' (some g) := by
  obtain ⟨a1, a2, a3, a4, a5, a6⟩ := file_first z mid tail hm7
  obtain ⟨b1, b2, b3⟩ := l3_read hr tail
  have e4 : restN (hd2 z) 8 = 0 := rfl
  obtain ⟨c1, c2, c3, c4⟩ := body_read (h := hd2 z) (wd := 8) (val := val8) hr rfl rfl rfl e4 (timesB_len z.times) (fun r => vals_times8 z.times r hz) tail
  have hlen := body_len (h := hd2 z) (wd := 8) hr rfl rfl rfl e4 (timesB_len z.times) tail
  refine two_ok hB (file_byt hmb htb) a1 (by rw [a2]; omega) (by rw [a4, a5, List.length_append]; omega) (l3L z tail) (bodyL (timesB z.times) z tail) tail (hd2 z) a6 b1 b2 (by rw [a3]; rfl) (hd2_may hr) b3 (by omega) z F fb c1 c2 c3 c4 hf V g hrd h0
theorem nop_foot (hr : rightZ z = true) (hz : ∀ t ∈ z.times, -9223372036854775808 ≤ t ∧ t ≤ 9223372036854775807) (hm7 : mid.length = 7) (hmb : ∀ b ∈ mid, b < 256) (htb : ∀ b ∈ tail, b < 256) (hB : 0 < B) (hf : footT tail = none) : NoP B m (fileL z mid tail) := fun V g hrd h0 =>
  (parse_file hr hz hm7 hmb htb hB ⟨#[]⟩ false (by rw [hf]; rfl) V g hrd h0).mono fun e w' ⟨vt, vs, vi, he, hzo, hg⟩ => by
    obtain ⟨A1, c1, rfl⟩ := hzo.types.form
    obtain ⟨A2, c2, rfl⟩ := hzo.times.form
    obtain ⟨A3, c3, rfl⟩ := hzo.index.form
    exact ⟨A1, _, c1, A2, _, c2, A3, _, c3, ⟨#[]⟩, he, hg⟩
end
theorem good_short {l : List Nat} (h : l.length < 44) : hdGood l = false := by
  unfold hdGood
  rw [decide_eq_false (by omega : ¬ 44 ≤ l.length)]
  rfl
/-- A file that is put, cut off somewhere. -/
theorem nop_cut {z : Zn} {B : Nat} {m : Int} (hr : rightZ z = true) (hz : ∀ t ∈ z.times, -9223372036854775808 ≤ t ∧ t ≤ 9223372036854775807) (hB : 0 < B) (k : Nat) (hk : k < (nats (putB z)).length) : NoP B m ((nats (putB z)).take k) := by
  have hfo : onlyB z.footer 32 = true := by
    unfold rightZ at hr
    simp only [Bool.and_eq_true] at hr
    exact hr.2
  rw [put_file] at hk ⊢
  obtain ⟨tail, htl⟩ : ∃ tail, nats ([10] ++ bytesOf z.footer ++ [10]) = tail := ⟨_, rfl⟩
  obtain ⟨mid, hmd⟩ : ∃ mid, nats (zerosB 7) = mid := ⟨_, rfl⟩
  have hm7 : mid.length = 7 := by rw [← hmd]; rfl
  have hmb : ∀ b ∈ mid, b < 256 := by rw [← hmd]; decide
  have htb : ∀ b ∈ tail, b < 256 := by
    rw [← htl]
    exact Byt.lt (((show Byt [10] by unfold Byt; decide).app (bytesOf_byt _)).app (by unfold Byt; decide))
  have htn : tail.length = z.footer.size + 2 := by rw [← htl, nats_len]; simp [bytesOf_len]
  rw [htl, hmd] at hk ⊢
  have hb := file_byt (z := z) hmb htb
  have hbk : ∀ b ∈ (fileL z mid tail).take k, b < 256 := fun b hx => hb b (List.mem_of_mem_take hx)
  have hlen := body_len (h := hd2 z) (wd := 8) hr rfl rfl rfl rfl (timesB_len z.times) tail
  have hL : (fileL z mid tail).length = 95 + longN (hd2 z) 8 + tail.length := by
    unfold fileL l3L
    simp only [List.length_append, nats_len, headB_len, hlen, hm7]; omega
  by_cases k1 : k < 44
  · exact nop_a hbk (good_short (by rw [List.length_take]; omega))
  · have e1 : (fileL z mid tail).take k = nats (headB hd1) ++ (mid ++ l3L z tail).take (k - 44) := by
      unfold fileL
      rw [List.take_append, List.take_of_length_le (by rw [nats_len, headB_len]; omega), nats_len, headB_len]
    rw [e1] at hbk ⊢
    obtain ⟨q1, _, q3⟩ := hd_read hd1 hd1_small ((mid ++ l3L z tail).take (k - 44))
    have q4 := hd_good hd1 hd1_small (.inr (.inl rfl)) ((mid ++ l3L z tail).take (k - 44))
    have q5 := hd_drop hd1 ((mid ++ l3L z tail).take (k - 44))
    have q6 : longN hd1 4 = 7 := rfl
    have qv : (nats (headB hd1) ++ (mid ++ l3L z tail).take (k - 44)).getD 4 0 ≠ 0 := by rw [q3]; decide
    have hll : (mid ++ l3L z tail).length = 51 + longN (hd2 z) 8 + tail.length := by
      unfold l3L
      simp only [List.length_append, nats_len, headB_len, hlen, hm7]; omega
    by_cases k2 : k < 51
    · refine nop_b hbk q4 qv ?_
      rw [q5, q1, q6, List.length_take]; omega
    · have e2 : (mid ++ l3L z tail).take (k - 44) = mid ++ (l3L z tail).take (k - 51) := by
        rw [List.take_append, List.take_of_length_le (by omega), hm7, show k - 44 - 7 = k - 51 by omega]
      have q7 : ((nats (headB hd1) ++ (mid ++ l3L z tail).take (k - 44)).drop 44).drop (longN (hdOf (nats (headB hd1) ++ (mid ++ l3L z tail).take (k - 44))) 4) = (l3L z tail).take (k - 51) := by
        rw [q5, q1, q6, e2]; exact List.drop_left' hm7
      have qn : longN (hdOf (nats (headB hd1) ++ (mid ++ l3L z tail).take (k - 44))) 4 ≤ ((nats (headB hd1) ++ (mid ++ l3L z tail).take (k - 44)).drop 44).length := by
        rw [q5, q1, q6, List.length_take]; omega
      by_cases k3 : k < 95
      · refine nop_c hbk q4 qv qn ?_
        rw [q7]
        exact good_short (by rw [List.length_take]; omega)
      · have e3 : (l3L z tail).take (k - 51) = nats (headB (hd2 z)) ++ (bodyL (timesB z.times) z tail).take (k - 95) := by
          unfold l3L
          rw [List.take_append, List.take_of_length_le (by rw [nats_len, headB_len]; omega), nats_len, headB_len, show k - 51 - 44 = k - 95 by omega]
        obtain ⟨r1, _, _⟩ := hd_read (hd2 z) (hd2_small hr) ((bodyL (timesB z.times) z tail).take (k - 95))
        have r4 := hd_good (hd2 z) (hd2_small hr) (.inr (.inl rfl)) ((bodyL (timesB z.times) z tail).take (k - 95))
        have r5 := hd_drop (hd2 z) ((bodyL (timesB z.times) z tail).take (k - 95))
        by_cases k4 : k - 95 < longN (hd2 z) 8
        · refine nop_d hB hbk q4 qv qn ?_ ?_ ?_ ?_
          · rw [q7, e3]; exact r4
          · rw [q7, e3, r1, q1]; rfl
          · rw [q7, e3, r1]; exact hd2_may hr
          · rw [q7, e3, r1, r5, List.length_take]; omega
        · have e4 : (bodyL (timesB z.times) z tail).take (k - 95) = bodyL (timesB z.times) z (tail.take (k - 95 - longN (hd2 z) 8)) := by
            have ea : ∀ t, bodyL (timesB z.times) z t = bodyL (timesB z.times) z [] ++ t := fun t => by unfold bodyL; simp
            have el := body_len (h := hd2 z) (wd := 8) hr rfl rfl rfl rfl (timesB_len z.times) []
            rw [ea tail, ea (tail.take _), List.take_append, List.take_of_length_le (by rw [el]; simp; omega), el]
            rfl
          have e5 : nats (headB hd1) ++ (mid ++ l3L z tail).take (k - 44) = fileL z mid (tail.take (k - 95 - longN (hd2 z) 8)) := by
            rw [e2, e3, e4]; rfl
          rw [e5]
          refine nop_foot hr hz hm7 hmb (fun b hx => htb b (List.mem_of_mem_take hx)) hB ?_
          rw [← htl]
          exact foot_cut hfo _ (by omega)
end Go.Proofs.Ytohpdpcjhmopbaa.Tz

/-! Layer 6 (tzif): Parse of rows of the call's own. -/
namespace Go.Proofs.Ytohpdpcjhmopbaa.Tz
open Go.RowKit

theorem Sl.rise {w : World} {B C sz : Nat} {v : Value} {xs : List (List Value)} (h : Sl w B sz v xs) (hB : B ≤ C) : Sl w C sz v xs :=
  ⟨h.form, fun j row hj => by
    obtain ⟨g, off, c, hv, hg, hc⟩ := h.at_ j row hj
    exact ⟨g, off, c, hv, Nat.lt_of_lt_of_le hg hB, hc⟩⟩
theorem ZnAt.rise {w : World} {B C : Nat} {z : Zn} {vt vs vi : Value} (h : ZnAt w B z vt vs vi) (hB : B ≤ C) : ZnAt w C z vt vs vi := ⟨h.types.rise hB, h.times.rise hB, h.index.rise hB⟩
theorem eqL_self {α : Type} {e : α → α → Bool} (he : ∀ x, e x x = true) (l : List α) : eqL e l l = true := eqL_yes rfl fun k a b ha hb => by
  rw [ha] at hb; injection hb with hb; subst hb; exact he a
theorem same_self (z : Zn) : sameZ z z = true := by
  unfold sameZ
  rw [eqL_self (e := eqT) (fun t => by unfold eqT; simp), eqL_self (e := eqI) (fun t => by unfold eqI; simp), eqL_self (e := eqI) (fun t => by unfold eqI; simp)]
  simp
theorem few_ok {z : Zn} (ha : ∀ t ∈ z.types, t.abbr.size ≤ 9223372036854775807) (hft : z.footer.size ≤ 9223372036854775807) {n : Int} (hn : n ≤ 1000000) (h : fewZ z n = true) : ZnOk z := by
  unfold fewZ at h
  simp only [Bool.and_eq_true, decide_eq_true_eq] at h
  exact ⟨by omega, by omega, by omega, ha, hft⟩
theorem own_sb {w : World} {base : Nat} {v : Value} {xs : List Int} (h : Own w base v xs) (hx : Byt xs) : ∃ A c, v = .slice A xs.length c ∧ SB w w.heap.size A xs.length c (nats xs) := by
  rcases h.2 with ⟨rfl, h0⟩ | ⟨g, cap, cur, rfl, hbg, hg, hnc, hcm, _, _⟩
  · exact ⟨none, 0, by rw [h0], by rw [nats_len], by omega, by omega, .inl ⟨rfl, rfl⟩⟩
  · refine ⟨some ⟨g, 0, none⟩, cap, rfl, by rw [nats_len], hnc, by unfold maxLen at hcm; omega, .inr ⟨g, 0, rfl, (Array.getElem?_eq_some_iff.1 hg).1, fun j b hj => ?_⟩⟩
    unfold nats at hj
    rw [List.getElem?_map] at hj
    cases hxj : xs[j]? with
    | none => rw [hxj] at hj; cases hj
    | some x =>
      rw [hxj] at hj
      have e : x.toNat = b := by simpa using hj
      have hr := hx x (List.mem_of_getElem? hxj)
      have hc := World.ownsRow.cells h (g := g) rfl j (by8 x) (by rw [List.getElem?_map, hxj]; rfl)
      rw [Own_add] at hc
      rw [Nat.zero_add, hc, ← e]
      unfold by8
      congr 2
      omega
theorem own_open {w : World} {base : Nat} {v : Value} {xs : List Int} (h : Own w base v xs) (hx : Byt xs) (h0 : 0 < xs.length) : ∃ g c, v = .slice (some ⟨g, 0, none⟩) xs.length c ∧ xs.length ≤ c ∧ c ≤ 9223372036854775807 ∧ SB w w.heap.size (some ⟨g, 0, none⟩) xs.length c (nats xs) := by
  obtain ⟨A, c, e, hs⟩ := own_sb h hx
  rcases h.2 with ⟨e1, e2⟩ | ⟨g, cap, cur, e1, _⟩
  · simp at e2; subst e2; simp at h0
  · rw [e1] at e
    injection e with ea _ ec
    subst ea
    subst ec
    exact ⟨g, _, e1, hs.2.1, hs.2.2.1, hs⟩
theorem SB.up {w : World} {B C : Nat} {A : Option Addr} {n c : Nat} {l : List Nat} (h : SB w B A n c l) (hB : B ≤ C) : SB w C A n c l := by
  obtain ⟨h1, h2, h3, h4⟩ := h
  refine ⟨h1, h2, h3, h4.imp id ?_⟩
  rintro ⟨g, off, e, hg, hc⟩
  exact ⟨g, off, e, Nat.lt_of_lt_of_le hg hB, hc⟩
theorem sb_cells {w : World} {B n c g : Nat} {xs : List Int} (h : SB w B (some ⟨g, 0, none⟩) n c (nats xs)) (hx : Byt xs) : ∀ j u, xs[j]? = some u → w.cell? ((⟨g, 0, none⟩ : Addr).add j) = some (by8 u) := by
  intro j u hu
  have hr := hx u (List.mem_of_getElem? hu)
  have := h.cells j u.toNat (by unfold nats; rw [List.getElem?_map, hu]; rfl)
  rw [Own_add]
  rw [Nat.zero_add] at this
  rw [this]
  unfold by8
  congr 2
  omega
theorem Own.empty (w : World) (base : Nat) (hb : base ≤ w.heap.size) : Own (w.alloc (.cells #[] 5)) base (.slice (some ⟨w.heap.size, 0, none⟩) 0 0) [] :=
  World.ownsRow_lit w #[] 0 hb (by unfold maxLen; omega) (by simp)
theorem Own.empty2 (w : World) (g base : Nat) (hg : w.heap.size = g) (hb : base ≤ g) : Own (w.alloc (.cells #[] 5)) base (.slice (some ⟨g, 0, none⟩) 0 0) [] := by
  subst hg; exact Own.empty w base hb
theorem putB_byt (z : Zn) : Byt (putB z) := by
  have h2 : Byt (headB hd1) := by unfold Byt; decide
  have h3 : Byt (zerosB 7) := by unfold Byt; decide
  have a : Byt magicB := by unfold Byt; decide
  have b : Byt (zerosB 15) := by unfold Byt; decide
  have c : Byt ((hd2 z).counts.flatMap fun n => digs n 4) := by
    intro x hx
    obtain ⟨n, _, hn⟩ := List.mem_flatMap.1 hx
    exact digs_byt n 4 x hn
  have h4 : Byt (headB (hd2 z)) := a.app (Byt.app (by intro x hx; simp [hd2] at hx; omega) (b.app c))
  have h5 : Byt (timesB z.times) := by
    intro x hx
    obtain ⟨n, _, hn⟩ := List.mem_flatMap.1 hx
    exact digs_byt _ 8 x hn
  have h6 : Byt (indexB z.index) := by
    intro x hx
    obtain ⟨n, _, rfl⟩ := List.mem_map.1 hx
    omega
  have h7 : Byt [10] := by unfold Byt; decide
  unfold putB topB
  exact ((((((((h2.app h3).app h4).app h5).app h6).app (typesB_byt _ _)).app (lettersB_byt _)).app h7).app (bytesOf_byt _)).app h7
theorem putB_len {z : Zn} (hr : rightZ z = true) : 104 ≤ (putB z).length ∧ (putB z).length ≤ 100000 := by
  obtain ⟨b1, b2, b3, b4, b5, b6, b7, _⟩ := right_all hr
  have hl : 2 ≤ letters z.types := by
    cases ht : z.types with
    | nil => rw [ht] at b2; simp at b2
    | cons t l =>
      rw [letters_cons]
      have hs : 1 ≤ t.abbr.size := by
        unfold rightZ rightTys at hr
        simp only [Bool.and_eq_true, List.all_eq_true] at hr
        have := hr.1.1.1.1.1.1.2 t (by rw [ht]; simp)
        unfold rightTy inI at this
        simp only [Bool.and_eq_true, decide_eq_true_eq] at this
        omega
      omega
  unfold putB topB
  simp only [List.length_append, headB_len, timesB_len, indexB_len, typesB_len, lettersB_len, bytesOf_len, List.length_cons, List.length_nil]
  unfold zerosB
  rw [List.length_replicate]
  omega
section
variable {z : Zn} {m : Int} {V : World}
/-- What is put is parsed as it was. -/
theorem Parse_put (hr : rightZ z = true) (ho : ZnOk z) (hz : ∀ t ∈ z.times, -9223372036854775808 ≤ t ∧ t ≤ 9223372036854775807) {A : Option Addr} {n c : Nat} (h : SB V V.heap.size A n c (nats (putB z))) (h1 : 0 < V.heap.size) (h0 : V.cell? ⟨0, 0, none⟩ = some (.int .i64 m)) :
    Calls Try.prog 19 #[.slice A n c] V fun e w' => ∃ vt vs vi, e = .returned (.tuple #[.agg #[vt, vs, vi, .string z.footer], .int .i64 0]) ∧ ZnOwn w' (V.heap.size + 1) z vt vs vi ∧ Below V.heap.size V w' := by
  refine Parse_yes _ _ A n c m V h (Nat.le_refl _) h1 h0 z ho hr fun U g hrd hU => ?_
  rw [put_file] at hrd
  exact parse_file hr hz rfl (by decide) (Byt.lt (((show Byt [10] by unfold Byt; decide).app (bytesOf_byt _)).app (by unfold Byt; decide))) h1 z.footer true (by rw [foot_yes]; show Value.tuple #[.string (strOfNums (natsI (nats (bytesOf z.footer)))), .bool true] = _; rw [text_back]) U g hrd hU
theorem Parse_none {l : List Nat} (hn : NoP V.heap.size m l) {A : Option Addr} {n c : Nat} (h : SB V V.heap.size A n c l) (h1 : 0 < V.heap.size) (h0 : V.cell? ⟨0, 0, none⟩ = some (.int .i64 m)) :
    Calls Try.prog 19 #[.slice A n c] V fun e w' => e = .returned (.tuple #[noZone, .int .i64 60]) ∧ Below V.heap.size V w' :=
  Parse_no l _ A n c m V h (Nat.le_refl _) h1 h0 hn
/-- With a byte more it is none. -/
theorem nop_more (hr : rightZ z = true) (hz : ∀ t ∈ z.times, -9223372036854775808 ≤ t ∧ t ≤ 9223372036854775807) {B : Nat} (hB : 0 < B) : NoP B m (nats (putB z ++ [0])) := by
  have e : nats (putB z ++ [0]) = fileL z (nats (zerosB 7)) (nats ([10] ++ bytesOf z.footer ++ [10]) ++ [0]) := by
    rw [nats_app, put_file]
    unfold fileL l3L bodyL
    simp only [List.append_assoc]
    rfl
  rw [e]
  refine nop_foot hr hz rfl (by decide) ?_ hB (foot_more _)
  intro b hb
  rcases List.mem_append.1 hb with hb | hb
  · exact Byt.lt (((show Byt [10] by unfold Byt; decide).app (bytesOf_byt _)).app (by unfold Byt; decide)) b hb
  · simp at hb; omega
end
end Go.Proofs.Ytohpdpcjhmopbaa.Tz
