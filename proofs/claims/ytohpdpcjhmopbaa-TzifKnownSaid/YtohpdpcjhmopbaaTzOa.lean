/-
  Layer 6 (tzif): a file of version 0, and one whose first block says something else (plain, and Parse of them).
-/
import Derived.Test.YtohpdpcjhmopbaaTzBx
import Derived.Test.YtohpdpcjhmopbaaTzBs
import Derived.Test.YtohpdpcjhmopbaaTzBt
namespace Go.Proofs.Ytohpdpcjhmopbaa.Tz
open Go.RowKit

theorem nats_set (xs : List Int) (i : Nat) (y : Int) : nats (xs.set i y) = (nats xs).set i y.toNat := List.map_set
theorem file_set (z : Zn) (mid tail : List Nat) (j y : Nat) (hj : j < mid.length) : (fileL z mid tail).set (44 + j) y = fileL z (mid.set j y) tail := by
  unfold fileL
  rw [List.set_append_right _ _ (by rw [nats_len, headB_len]; omega), nats_len, headB_len, show 44 + j - 44 = j by omega, List.set_append_left _ _ hj]
def hd0 (z : Zn) : Hd := ⟨0, 0, 0, 0, z.times.length, z.types.length, letters z.types⟩
theorem put_head (z : Zn) : ((putB z).drop 51).take 44 = headB (hd2 z) := by
  have e : putB z = (headB hd1 ++ zerosB 7) ++ (headB (hd2 z) ++ (timesB z.times ++ (indexB z.index ++ (typesB z.types 0 ++ (lettersB z.types ++ ([10] ++ (bytesOf z.footer ++ [10]))))))) := by
    unfold putB topB
    simp only [List.append_assoc]
  rw [e, List.drop_left' (by rw [List.length_append, headB_len]; rfl), List.take_left' (headB_len _)]
theorem head_set (z : Zn) : (headB (hd2 z)).set 4 0 = headB (hd0 z) := rfl
def restL (z : Zn) : List Int := indexB z.index ++ (typesB z.types 0 ++ lettersB z.types)
theorem put_rest (z : Zn) : ((putB z).drop (95 + 8 * z.times.length)).take (restL z).length = restL z := by
  have e : putB z = (headB hd1 ++ zerosB 7 ++ headB (hd2 z) ++ timesB z.times) ++ (restL z ++ ([10] ++ (bytesOf z.footer ++ [10]))) := by
    unfold putB topB restL
    simp only [List.append_assoc]
  rw [e, List.drop_left' (by simp only [List.length_append, headB_len, timesB_len]; unfold zerosB; rw [List.length_replicate]), List.take_left' rfl]
theorem put_lens (z : Zn) : (putB z).length = 95 + 8 * z.times.length + (restL z).length + z.footer.size + 2 := by
  unfold putB topB restL
  simp only [List.length_append, headB_len, timesB_len, bytesOf_len, List.length_cons, List.length_nil]
  unfold zerosB
  rw [List.length_replicate]
  omega
theorem times4_len (l : List Int) : (times4 l).length = 4 * l.length := by
  unfold times4
  induction l with
  | nil => rfl
  | cons a l ih => rw [List.flatMap_cons, List.length_append, digs_len, ih, List.length_cons]; omega
theorem times4_snoc (l : List Int) (x : Int) : times4 (l ++ [x]) = times4 l ++ digs (IntKind.u64.wrap x).toNat 4 := by unfold times4; rw [List.flatMap_append]; simp
/-- A zone without its footer. -/
def bare (z : Zn) : Zn := { z with footer := ⟨#[]⟩ }
theorem bare_right {z : Zn} (hr : rightZ z = true) : rightZ (bare z) = true := by
  unfold rightZ at hr ⊢
  simp only [Bool.and_eq_true] at hr ⊢
  exact ⟨⟨hr.1.1, show decide ((⟨#[]⟩ : ByteArray).size ≤ 100) = true by decide⟩, show onlyB ⟨#[]⟩ 32 = true by decide⟩
theorem hd0_small {z : Zn} (hr : rightZ z = true) : ∀ n ∈ (hd0 z).counts, n < 4294967296 := by
  obtain ⟨b1, _, b3, _, b5, _⟩ := right_all hr
  intro n hn
  simp only [hd0, Hd.counts, List.mem_cons, List.not_mem_nil, or_false] at hn
  omega
theorem hd0_may {z : Zn} (hr : rightZ z = true) : mayB (hd0 z) = true := hd2_may hr
theorem headB_byt {h : Hd} (hv : h.version < 256) : Byt (headB h) := by
  have a : Byt magicB := by unfold Byt; decide
  have b : Byt (zerosB 15) := by unfold Byt; decide
  have c : Byt (h.counts.flatMap fun n => digs n 4) := by
    intro x hx
    obtain ⟨n, _, hn⟩ := List.mem_flatMap.1 hx
    exact digs_byt n 4 x hn
  exact a.app (Byt.app (by intro x hx; simp at hx; omega) (b.app c))
/-- The bytes of a file of version 0. -/
def oldB (z : Zn) : List Int := headB (hd0 z) ++ times4 z.times ++ restL z
theorem times4_byt (l : List Int) : Byt (times4 l) := by
  intro x hx
  obtain ⟨n, _, hn⟩ := List.mem_flatMap.1 hx
  exact digs_byt _ 4 x hn
theorem restL_byt (z : Zn) : Byt (restL z) := by
  have h6 : Byt (indexB z.index) := by
    intro x hx
    obtain ⟨n, _, rfl⟩ := List.mem_map.1 hx
    omega
  exact h6.app ((typesB_byt _ _).app (lettersB_byt _))
theorem oldB_byt (z : Zn) : Byt (oldB z) := ((headB_byt (by decide : (0 : Nat) < 256)).app (times4_byt _)).app (restL_byt z)
theorem old_nats (z : Zn) : nats (oldB z) = nats (headB (hd0 z)) ++ bodyL (times4 z.times) z [] := by
  unfold oldB restL bodyL
  simp only [nats_app, List.append_assoc, List.append_nil]
section
variable {z : Zn} {m : Int} {V : World}
theorem Parse_old (hr : rightZ z = true) (ho : ZnOk (bare z)) (hz : ∀ t ∈ z.times, -2147483648 ≤ t ∧ t ≤ 2147483647) {A : Option Addr} {n c : Nat} (h : SB V V.heap.size A n c (nats (oldB z))) (h1 : 0 < V.heap.size) (h0 : V.cell? ⟨0, 0, none⟩ = some (.int .i64 m)) :
    Calls Try.prog 19 #[.slice A n c] V fun e w' => ∃ vt vs vi, e = .returned (.tuple #[.agg #[vt, vs, vi, .string ⟨#[]⟩], .int .i64 0]) ∧ ZnOwn w' (V.heap.size + 1) (bare z) vt vs vi ∧ Below V.heap.size V w' := by
  have hby := (oldB_byt z).lt
  rw [old_nats] at hby
  obtain ⟨a1, a2, a3⟩ := hd_read (hd0 z) (hd0_small hr) (bodyL (times4 z.times) z [])
  have a4 := hd_good (hd0 z) (hd0_small hr) (.inl rfl) (bodyL (times4 z.times) z [])
  have a5 := hd_drop (hd0 z) (bodyL (times4 z.times) z [])
  have e4 : restN (hd0 z) 4 = 0 := rfl
  obtain ⟨c1, c2, c3, c4⟩ := body_read (h := hd0 z) (wd := 4) (val := val4) hr rfl rfl rfl e4 (times4_len z.times) (fun r => vals_times4 z.times r hz) []
  have hlen := body_len (h := hd0 z) (wd := 4) hr rfl rfl rfl e4 (times4_len z.times) []
  refine Parse_yes _ _ A n c m V h (Nat.le_refl _) h1 h0 (bare z) ho (bare_right hr) fun U g hrd hU => ?_
  rw [old_nats] at hrd
  refine (parse_f _ _ [] V.heap.size g m U hrd h1 hU hby a4 a3 a5 ⟨z.types, z.times, z.index, ⟨#[]⟩⟩ fun X hX hX0 => ?_).mono ?_
  · rw [a1]
    refine (block_4 (hd0 z) _ V.heap.size g m X hX ⟨show (0 : Nat) ≤ 4294967295 by decide, show (0 : Nat) ≤ 4294967295 by decide, show (0 : Nat) ≤ 4294967295 by decide, ?_, ?_, ?_⟩ (hd0_may hr) (by rw [hlen]; simp) (fun b hb => hby b (List.mem_append_right _ hb)) h1 hX0).mono ?_
    · have := hd0_small hr (hd0 z).times (by simp [Hd.counts]); omega
    · have := hd0_small hr (hd0 z).types (by simp [Hd.counts]); omega
    · have := hd0_small hr (hd0 z).letters (by simp [Hd.counts]); omega
    · rintro e w' ⟨_, h2, h3⟩
      obtain ⟨vt, vs, vi, he, hzo, hrd⟩ := h2 _ c3
      rw [c1, c2] at hzo
      rw [c4] at hrd
      exact ⟨vt, vs, vi, he, hzo, hrd, h3⟩
  · rintro e w' ⟨vt, vs, vi, he, hzo, hg⟩
    exact ⟨vt, vs, vi, he, hzo, hg⟩
/-- Whatever its first block says. -/
theorem Parse_first (hr : rightZ z = true) (ho : ZnOk z) (hz : ∀ t ∈ z.times, -9223372036854775808 ≤ t ∧ t ≤ 9223372036854775807) {j : Nat} (hj : j < 7) {y : Int} (hy : 0 ≤ y ∧ y ≤ 255) {A : Option Addr} {n c : Nat} (h : SB V V.heap.size A n c (nats ((putB z).set (44 + j) y))) (h1 : 0 < V.heap.size) (h0 : V.cell? ⟨0, 0, none⟩ = some (.int .i64 m)) :
    Calls Try.prog 19 #[.slice A n c] V fun e w' => ∃ vt vs vi, e = .returned (.tuple #[.agg #[vt, vs, vi, .string z.footer], .int .i64 0]) ∧ ZnOwn w' (V.heap.size + 1) z vt vs vi ∧ Below V.heap.size V w' := by
  refine Parse_yes _ _ A n c m V h (Nat.le_refl _) h1 h0 z ho hr fun U g hrd hU => ?_
  rw [nats_set, put_file, file_set _ _ _ _ _ (by rw [nats_len]; exact hj)] at hrd
  refine parse_file hr hz (by rw [List.length_set]; rfl) ?_ (Byt.lt (((show Byt [10] by unfold Byt; decide).app (bytesOf_byt _)).app (by unfold Byt; decide))) h1 z.footer true (by rw [foot_yes]; show Value.tuple #[.string (strOfNums (natsI (nats (bytesOf z.footer)))), .bool true] = _; rw [text_back]) U g hrd hU
  intro b hb
  rcases List.mem_or_eq_of_mem_set hb with hb | hb
  · exact (show ∀ b ∈ nats (zerosB 7), b < 256 by decide) b hb
  · omega
end
theorem Own.stored {w : World} {base g n c : Nat} {xs : List Int} (h : Own w base (.slice (some ⟨g, 0, none⟩) n c) xs) (hn : xs.length = n) (s : Nat) (y : Int) : Own (w.setCell ⟨g, s, none⟩ (by8 y)) base (.slice (some ⟨g, 0, none⟩) n c) (xs.set s y) := by
  subst hn
  unfold Own at h ⊢
  have := (World.ownsRow.stored h s (by8 y)).1
  rw [List.length_set, List.map_set]
  exact this
theorem Own.loose {w : World} {base g n c : Nat} {xs : List Int} (h : Own w base (.slice (some ⟨g, 0, none⟩) n c) xs) (hn : xs.length = n) (s : Nat) : w.frozen? ⟨g, s, none⟩ = false := by
  subst hn
  exact World.ownsRow.frozenAt h s
theorem sb_mid {w : World} {B n c g : Nat} {xs zs : List Int} {o k : Nat} (h : SB w B (some ⟨g, 0, none⟩) n c (nats xs)) (hx : Byt xs) (hz : (xs.drop o).take k = zs) : ∀ j u, zs[j]? = some u → w.cell? ((⟨g, o, none⟩ : Addr).add j) = some (by8 u) := by
  intro j u hu
  have h1 : xs[o + j]? = some u := by
    rw [← hz, List.getElem?_take] at hu
    split at hu
    · rwa [List.getElem?_drop] at hu
    · cases hu
  have h2 := sb_cells h hx (o + j) u h1
  rw [Own_add] at h2
  have e : (⟨g, o, none⟩ : Addr).add j = ⟨g, o + j, none⟩ := by unfold Addr.add; split <;> simp_all
  rw [e]; exact h2
theorem own_sb_at {w : World} {base g n c : Nat} {xs : List Int} (h : Own w base (.slice (some ⟨g, 0, none⟩) n c) xs) (hx : Byt xs) : SB w w.heap.size (some ⟨g, 0, none⟩) n c (nats xs) := by
  obtain ⟨A, c', e, hs⟩ := own_sb h hx
  injection e with e1 e2 e3
  subst e1 e2 e3
  exact hs
theorem four_cells (w : World) (e0 e1 e2 e3 : Int) (t : TypeId) (zs : List Int) (hz : zs = [e0, e1, e2, e3]) : ∀ j u, zs[j]? = some u → (w.alloc (.cells #[.int .u8 e0, .int .u8 e1, .int .u8 e2, .int .u8 e3] t)).cell? ((⟨w.heap.size, 0, none⟩ : Addr).add j) = some (by8 u) := by
  subst hz
  intro j u hu
  rw [Own_add]
  match j, hu with
  | 0, hu => simp at hu; subst hu; exact cell_new w _ t _ 0 _ rfl rfl
  | 1, hu => simp at hu; subst hu; exact cell_new w _ t _ 1 _ rfl rfl
  | 2, hu => simp at hu; subst hu; exact cell_new w _ t _ 2 _ rfl rfl
  | 3, hu => simp at hu; subst hu; exact cell_new w _ t _ 3 _ rfl rfl
theorem digs4_int (x : Int) : digs (IntKind.u64.wrap x).toNat 4 = [x / 16777216 % 256, x / 65536 % 256, x / 256 % 256, x % 256] := by
  have h0 : 0 ≤ IntKind.u64.wrap x := by rw [IntKind.wrap_u64]; omega
  obtain ⟨n, hn⟩ : ∃ n : Nat, IntKind.u64.wrap x = n := ⟨(IntKind.u64.wrap x).toNat, by omega⟩
  rw [hn, Int.toNat_natCast]
  rw [IntKind.wrap_u64] at hn
  show [((n / 2 ^ (8 * 3) % 256 : Nat) : Int), ((n / 2 ^ (8 * 2) % 256 : Nat) : Int), ((n / 2 ^ (8 * 1) % 256 : Nat) : Int), ((n / 2 ^ (8 * 0) % 256 : Nat) : Int)] = _
  have e3 : ((n / 2 ^ (8 * 3) % 256 : Nat) : Int) = x / 16777216 % 256 := by omega
  have e2 : ((n / 2 ^ (8 * 2) % 256 : Nat) : Int) = x / 65536 % 256 := by omega
  have e1 : ((n / 2 ^ (8 * 1) % 256 : Nat) : Int) = x / 256 % 256 := by omega
  have e0 : ((n / 2 ^ (8 * 0) % 256 : Nat) : Int) = x % 256 := by omega
  rw [e3, e2, e1, e0]
end Go.Proofs.Ytohpdpcjhmopbaa.Tz
