/-
  Layer 11 (lines): going over whole lines (written by gen_ln_iter.py).
-/
import Derived.Test.YtokeepmlibolfaaDoorLnIt
namespace Go.Proofs.YtokeepmlibolfaaDoor.Ln
open Go.RowKit
attribute [local go_sem] Oper.semAt_some
set_option maxRecDepth 100000

theorem w_id {x : Int} (h1 : -9223372036854775808 ≤ x) (h2 : x < 9223372036854775808) : wrap64 x = x := by unfold wrap64; omega
theorem wholes_skip {l : List UInt8} {ls : List (List UInt8)} {i b : Nat} {w : List UInt8} (h : skips b (crL l) = true) : wholesL (l :: ls) i b w = wholesL ls (i + 1) b w := by
  rw [wholesL, if_pos h]
theorem wholes_on {l : List UInt8} {ls : List (List UInt8)} {i b : Nat} {w : List UInt8} (h : skips b (crL l) = false) (h2 : onB (crL l) = true) : wholesL (l :: ls) i b w = wholesL ls (i + 1) (if b = 0 then i + 1 else b) ((w ++ partL (crL l)) ++ [32]) := by
  rw [wholesL, if_neg (by rw [h]; decide), if_pos h2]
theorem wholes_out {l : List UInt8} {ls : List (List UInt8)} {i b : Nat} {w : List UInt8} (h : skips b (crL l) = false) (h2 : onB (crL l) = false) : wholesL (l :: ls) i b w = ((if b = 0 then i + 1 else b), trimL (w ++ partL (crL l))) :: wholesL ls (i + 1) 0 [] := by
  rw [wholesL, if_neg (by rw [h]; decide), if_neg (by rw [h2]; decide)]
theorem wholes_len : ∀ (ls : List (List UInt8)) (i b : Nat) (w : List UInt8), (wholesL ls i b w).length ≤ ls.length + 1
  | [], i, b, w => by unfold wholesL; split <;> simp
  | l :: ls, i, b, w => by
    unfold wholesL
    have h1 := wholes_len ls (i + 1) b w
    have h2 := wholes_len ls (i + 1) (if b = 0 then i + 1 else b) ((w ++ partL (crL l)) ++ [32])
    have h3 := wholes_len ls (i + 1) 0 []
    split
    · simp only [List.length_cons]; omega
    · split
      · simp only [List.length_cons]; omega
      · simp only [List.length_cons]; omega
theorem app_own {W : World} {B : Nat} {v : Value} {xs PT : List UInt8} (h : W.ownsRowF B 5 1 v (xs.length + (bs PT).size) (cellsU xs ++ Lib.strCells (bs PT))) : W.ownsRowF B 5 1 v (xs ++ PT).length (cellsU (xs ++ PT)) := by
  rw [List.length_append, ← cellsU_app, ← strCells_bs]; exact h
theorem app_blank {W : World} {B : Nat} {v : Value} {xs : List UInt8} (h : W.ownsRowF B 5 1 v (xs.length + 1) (cellsU xs ++ [.int .u8 32])) : W.ownsRowF B 5 1 v (xs ++ [32]).length (cellsU (xs ++ [32])) := by
  rw [List.length_append, ← cellsU_app]; exact h
theorem cells_one (W : World) (x : Value) (t : TypeId) : ∀ j u, [x][j]? = some u → (W.alloc (.cells #[x] t)).cell? ((⟨W.heap.size, 0, none⟩ : Addr).add j) = some u := fun j u h => by
  match j, h with
  | 0, h => simp at h; subst h; show (W.alloc (.cells #[x] t)).cell? ⟨W.heap.size, 0, none⟩ = some x; simp
  | j + 1, h => simp at h
set_option maxHeartbeats 8000000 in
theorem wholes_walk {B tb L : Nat} {text : List UInt8} {m : Int} {J : List (Nat × List UInt8) → List Nat → World → Prop} (hB : Bd B tb text m J) (n : Nat) (hn : 3 ≤ n) (hl0 : text.length < 4294967281) (ht : tot (linesL text) ≤ 1000000)
    (hY : ∀ (pre : List (Nat × List UInt8)) (bl : List Nat) (x : Nat × List UInt8) (W : World), J pre bl W → x.2.length ≤ 1000000 → pre.length ≤ 1000001 → YieldAt Fence.wide (n - 1) Tryd.prog L #[.int .i64 (x.1 : Int), .string (bs x.2)] W fun e W' => e = .returned (.bool true) ∧ ∃ bl', J (pre ++ [x]) bl' W' ∧ ∀ b, B ≤ b → b < W.heap.size → b ∉ bl → W'.heap[b]? = W.heap[b]?)
    (bl0 : List Nat) (W0 : World) (h0 : J [] bl0 W0) :
    CallsIn Fence.wide n Tryd.prog 21 #[.func (.yield L) #[] #[], .pointer (some ⟨tb, 0, none⟩)] W0 fun e W' => (∃ v, e = .returned v) ∧ ∃ bl, J (wholesL (linesL text) 0 0 []) bl W' := by
  obtain ⟨i0, hi0, hz0, hz1, hz2⟩ := info_parts infoU8
  have hsplit := split_bs text
  have hN := lines_len text
  obtain ⟨ls, hls⟩ : ∃ ls, linesL text = ls := ⟨_, rfl⟩
  rw [hls] at hsplit hN ht ⊢
  obtain ⟨N, hNe⟩ : ∃ N, ls.length = N := ⟨_, rfl⟩
  rw [hNe] at hN
  have hN2 : N ≤ 1000000 := by
    have h1 : ∀ l : List (List UInt8), l.length ≤ tot l := fun l => by
      induction l with
      | nil => exact Nat.le_refl _
      | cons a l ih => show l.length + 1 ≤ a.length + 1 + tot l; omega
    have := h1 ls
    omega
  have HSP : Hid (∀ V, V.cell? ⟨0, 0, none⟩ = some (.int .i64 m) → Calls Tryd.prog 22 #[.string (bs text), .string ⟨#[10]⟩] V fun e w' => e = .returned (.slice (some ⟨V.heap.size, 0, none⟩) N N) ∧ w' = V.alloc (.cells (ls.map fun l => Value.string (bs l)).toArray 9)) := Lib.hid fun V hV => by
    have := Tryd.strings_Split (bs text) (bs [10]) m V hl0 hV (by decide)
    rw [hsplit, ← hN, List.map_map] at this
    exact this
  have c0 := hB.cell h0
  have cm := hB.lim h0
  have HJ0 := Lib.hid h0
  have HTT : Hid ((wholesL ls 0 0 []).length ≤ 1000001) := Lib.hid (by have := wholes_len ls 0 0 []; omega)
  have HT0 := Lib.hid ht
  have HNE := Lib.hid hNe
  have hN3 : (N : Int) ≤ 1000000 := by omega
  clear hsplit hls h0 ht hNe hN hN2 hl0
  refine callsIn_of_wp Tryd.func21 rfl trivial ?_ rfl
  simp only [Tryd.ntmps21, List.size_toArray, List.length_cons, List.length_nil, Nat.reduceAdd, Nat.reduceSub, Array.replicate_succ, Array.replicate_zero, List.push_toArray, List.append_toArray, List.nil_append, List.cons_append]
  gi_wp2_with (first
    | (refine ⟨trivial, ?_⟩; gi_at_call 22; refine (callsIn_wide.2 (HSP.out _ cm)).mono ?_; clear HSP; rintro e V ⟨rfl, rfl⟩)
    | (refine ⟨trivial, fun _ => by omega, ?_⟩; gi_at_call 22; refine (callsIn_wide.2 (HSP.out _ cm)).mono ?_; clear HSP; rintro e V ⟨rfl, rfl⟩)
    | fail)
  have hsz := hB.size HJ0.out
  have K0 : It B W0.heap.size ls J [] bl0 (.slice none 0 0) [] (W0.alloc (.cells (ls.map fun l => Value.string (bs l)).toArray 9)) :=
    ⟨hB.abide HJ0.out (World.grownBy_alloc _ _ none) (fun _ e => by cases e), World.alloc_heap_new _ _, hsz, World.ownsRowF_nil _ _ _ _⟩
  have HK0 := Lib.hid K0
  clear K0 c0 cm HJ0 hsz
  generalize W0.heap.size = Ls at *
  gi_loopw [3, 4, 12] (fun v b i wr => ∃ (k bb : Nat) (pre : List (Nat × List UInt8)) (bl : List Nat) (xs : List UInt8), k ≤ N ∧ b = .int .i64 bb ∧ i = .int .i64 k ∧ It B Ls ls J pre bl v xs wr ∧ xs.length + tot (ls.drop k) ≤ 1000000 ∧ pre ++ wholesL (ls.drop k) k bb xs = wholesL ls 0 0 []) (fun _ _ i _ => N - (intOf i).toNat)
  case atStart => exact ⟨0, 0, [], bl0, [], Nat.zero_le _, rfl, rfl, HK0.out, by rw [List.drop_zero]; simpa using HT0.out, by rw [List.drop_zero]; rfl⟩
  case round =>
    obtain ⟨k, bb, pre, bl, xs, hk, rfl, rfl, hit, htt, hp⟩ := hrel
    have HK := Lib.hid hit
    have HP := Lib.hid hp
    clear hit hp HK0
    by_cases hks : k < N
    · obtain ⟨l, hl⟩ : ∃ l, ls[k]? = some l := ⟨_, List.getElem?_eq_getElem (by have := HNE.out; omega)⟩
      have hlc := HK.out.line hl
      have htd := tot_drop hl
      rw [htd] at htt
      have HW := Lib.hid (fun b w => wholes_cons (b := b) (w := w) hl)
      obtain ⟨c, hc⟩ : ∃ c, crL l = c := ⟨_, rfl⟩
      have hcl : c.length ≤ l.length := by rw [← hc]; exact suffix_le _ _
      have HTS : Hid (∀ V, Calls Tryd.prog 23 #[.string (bs l), .string ⟨#[13]⟩] V fun e w' => e = .returned (.string (bs c)) ∧ w' = V) := Lib.hid fun V => by
        have := Tryd.strings_TrimSuffix (bs l) ⟨#[13]⟩ V (by rw [bs_size]; omega)
        rw [bs_list] at this
        rw [← hc]
        exact this
      obtain ⟨PT, hPT⟩ : ∃ PT, partL c = PT := ⟨_, rfl⟩
      have hpl : PT.length ≤ c.length := by rw [← hPT]; exact suffix_le _ _
      have HCS : Hid (∀ V, Calls Tryd.prog 26 #[.string (bs c), .string ⟨#[92]⟩] V fun e w' => e = .returned (.tuple #[.string (bs PT), .bool (onB c)]) ∧ w' = V) := Lib.hid fun V => by
        have := Tryd.strings_CutSuffix (bs c) ⟨#[92]⟩ V (by rw [bs_size]; omega)
        rw [bs_list] at this
        rw [← hPT]
        exact this
      have HRM : Hid (∀ V, Calls Tryd.prog 24 #[.string (bs c)] V fun e w' => e = .returned (.bool (remB c)) ∧ Below V.heap.size V w') := Lib.hid fun V => remark_any c (by omega) V
      have HBL : Hid (∀ V, Calls Tryd.prog 25 #[.string (bs c)] V fun e w' => e = .returned (.bool (blankB c)) ∧ Below V.heap.size V w') := Lib.hid fun V => blank_any c (by omega) V
      have HTR : Hid (∀ V, Calls Tryd.prog 27 #[.string (bs (xs ++ PT))] V fun e w' => e = .returned (.string (bs (trimL (xs ++ PT)))) ∧ Below V.heap.size V w') := Lib.hid fun V => trim_any _ (by rw [List.length_append]; omega) V
      have hkk : ((k + 1 : Nat) : Int) = (k : Int) + 1 := by omega
      have wk : wrap64 ((k : Int) + 1) = (k : Int) + 1 := w_id (by omega) (by omega)
      have HSK : Hid (∀ b w, skips b c = true → wholesL (ls.drop k) k b w = wholesL (ls.drop (k + 1)) (k + 1) b w) := Lib.hid fun b w h => by rw [HW.out]; exact wholes_skip (by rw [hc]; exact h)
      have HON : Hid (∀ b w, skips b c = false → onB c = true → wholesL (ls.drop k) k b w = wholesL (ls.drop (k + 1)) (k + 1) (if b = 0 then k + 1 else b) ((w ++ PT) ++ [32])) := Lib.hid fun b w h h2 => by rw [HW.out, ← hPT, ← hc]; exact wholes_on (by rw [hc]; exact h) (by rw [hc]; exact h2)
      have HOU : Hid (∀ b w, skips b c = false → onB c = false → wholesL (ls.drop k) k b w = ((if b = 0 then k + 1 else b), trimL (w ++ PT)) :: wholesL (ls.drop (k + 1)) (k + 1) 0 []) := Lib.hid fun b w h h2 => by rw [HW.out, ← hPT, ← hc]; exact wholes_out (by rw [hc]; exact h) (by rw [hc]; exact h2)
      have HAR : Hid (xs.length + (l.length + 1 + tot (ls.drop (k + 1))) ≤ 1000000 ∧ PT.length ≤ l.length) := Lib.hid ⟨htt, Nat.le_trans hpl hcl⟩
      unfold skips at HSK HON HOU
      clear hl htd HW hc hPT htt hpl hcl
      generalize remB c = r1 at *
      generalize blankB c = r2 at *
      generalize onB c = r3 at *
      cases r1 with
      | true =>
        have HQ := Lib.hid (show pre ++ wholesL (ls.drop (k + 1)) (k + 1) bb xs = wholesL ls 0 0 [] by rw [← HP.out, HSK.out _ _ rfl])
        clear HSK HON HOU HP HBL HCS HTR
        gi_wp2_with (first
          | (refine ⟨trivial, ?_⟩; gi_at_call 23; refine (callsIn_wide.2 (HTS.out _)).mono ?_; clear HTS; rintro e V ⟨rfl, rfl⟩)
          | (refine ⟨trivial, fun _ => by omega, ?_⟩; gi_at_call 23; refine (callsIn_wide.2 (HTS.out _)).mono ?_; clear HTS; rintro e V ⟨rfl, rfl⟩)
          | (refine ⟨trivial, ?_⟩; gi_at_call 24; refine (callsIn_wide.2 (HRM.out _)).mono ?_; clear HRM; rintro e V1 ⟨rfl, hx⟩; have K1 := Lib.hid (HK.out.below hB hx); clear hx)
          | (refine ⟨trivial, fun _ => by omega, ?_⟩; gi_at_call 24; refine (callsIn_wide.2 (HRM.out _)).mono ?_; clear HRM; rintro e V1 ⟨rfl, hx⟩; have K1 := Lib.hid (HK.out.below hB hx); clear hx)
          | fail)
        all_goals (try (rename_i ha hb; exact absurd ha (by intro h; cases h)))
        all_goals (try (rename_i ha; exact absurd ha (by intro h; cases h)))
        refine ⟨trivial, ?_⟩
        gi_wp2
        all_goals
          go_roundw
          case rel => exact ⟨k + 1, bb, pre, bl, xs, by omega, rfl, by go_num, K1.out, by have := HAR.out; omega, HQ.out⟩
          case measure => simp only [intOf]; omega
      | false =>
        by_cases hb0 : bb = 0
        · subst hb0
          cases r2 with
          | true =>
            have HQ := Lib.hid (show pre ++ wholesL (ls.drop (k + 1)) (k + 1) 0 xs = wholesL ls 0 0 [] by rw [← HP.out, HSK.out _ _ rfl])
            clear HSK HON HOU HP HCS HTR
            gi_wp2_with (first
              | (refine ⟨trivial, ?_⟩; gi_at_call 23; refine (callsIn_wide.2 (HTS.out _)).mono ?_; clear HTS; rintro e V ⟨rfl, rfl⟩)
              | (refine ⟨trivial, fun _ => by omega, ?_⟩; gi_at_call 23; refine (callsIn_wide.2 (HTS.out _)).mono ?_; clear HTS; rintro e V ⟨rfl, rfl⟩)
              | (refine ⟨trivial, ?_⟩; gi_at_call 24; refine (callsIn_wide.2 (HRM.out _)).mono ?_; clear HRM; rintro e V1 ⟨rfl, hx⟩; have K1 := Lib.hid (HK.out.below hB hx); clear hx)
              | (refine ⟨trivial, fun _ => by omega, ?_⟩; gi_at_call 24; refine (callsIn_wide.2 (HRM.out _)).mono ?_; clear HRM; rintro e V1 ⟨rfl, hx⟩; have K1 := Lib.hid (HK.out.below hB hx); clear hx)
              | (refine ⟨trivial, ?_⟩; gi_at_call 25; refine (callsIn_wide.2 (HBL.out _)).mono ?_; clear HBL; rintro e V2 ⟨rfl, hx⟩; have K2 := Lib.hid (K1.out.below hB hx); clear hx)
              | (refine ⟨trivial, fun _ => by omega, ?_⟩; gi_at_call 25; refine (callsIn_wide.2 (HBL.out _)).mono ?_; clear HBL; rintro e V2 ⟨rfl, hx⟩; have K2 := Lib.hid (K1.out.below hB hx); clear hx)
              | fail)
            all_goals
              go_roundw
              case rel => exact ⟨k + 1, 0, pre, bl, xs, by omega, rfl, by go_num, K2.out, by have := HAR.out; omega, HQ.out⟩
              case measure => simp only [intOf]; omega
          | false =>
            cases r3 with
            | true =>
              have HQ := Lib.hid (show pre ++ wholesL (ls.drop (k + 1)) (k + 1) (k + 1) ((xs ++ PT) ++ [32]) = wholesL ls 0 0 [] by rw [← HP.out, HON.out _ _ rfl rfl, if_pos rfl])
              clear HSK HON HOU HP HTR
              gi_wp2_with (first
                | (refine ⟨trivial, ?_⟩; gi_at_call 23; refine (callsIn_wide.2 (HTS.out _)).mono ?_; clear HTS; rintro e V ⟨rfl, rfl⟩)
                | (refine ⟨trivial, fun _ => by omega, ?_⟩; gi_at_call 23; refine (callsIn_wide.2 (HTS.out _)).mono ?_; clear HTS; rintro e V ⟨rfl, rfl⟩)
                | (refine ⟨trivial, ?_⟩; gi_at_call 24; refine (callsIn_wide.2 (HRM.out _)).mono ?_; clear HRM; rintro e V1 ⟨rfl, hx⟩; have K1 := Lib.hid (HK.out.below hB hx); clear hx)
                | (refine ⟨trivial, fun _ => by omega, ?_⟩; gi_at_call 24; refine (callsIn_wide.2 (HRM.out _)).mono ?_; clear HRM; rintro e V1 ⟨rfl, hx⟩; have K1 := Lib.hid (HK.out.below hB hx); clear hx)
                | (refine ⟨trivial, ?_⟩; gi_at_call 25; refine (callsIn_wide.2 (HBL.out _)).mono ?_; clear HBL; rintro e V2 ⟨rfl, hx⟩; have K2 := Lib.hid (K1.out.below hB hx); clear hx)
                | (refine ⟨trivial, fun _ => by omega, ?_⟩; gi_at_call 25; refine (callsIn_wide.2 (HBL.out _)).mono ?_; clear HBL; rintro e V2 ⟨rfl, hx⟩; have K2 := Lib.hid (K1.out.below hB hx); clear hx)
                | (refine ⟨trivial, ?_⟩; gi_at_call 26; refine (callsIn_wide.2 (HCS.out _)).mono ?_; clear HCS; rintro e V3 ⟨rfl, rfl⟩)
                | (refine ⟨trivial, fun _ => by omega, ?_⟩; gi_at_call 26; refine (callsIn_wide.2 (HCS.out _)).mono ?_; clear HCS; rintro e V3 ⟨rfl, rfl⟩)
                | (gi_at_builtin; refine Lib.wpListIn_append_own_stringF _ rfl _ _ 22 9 rfl (Ls + 1) 5 i0 Tryd.underlying22 Tryd.underlying9 hi0 hz0 hz1 hz2 _ _ _ rfl K2.out.own (bs PT) rfl (by have := HAR.out; rw [bs_size]; unfold maxLen; omega) (by have := HAR.out; rw [bs_size]; omega) (by have := K2.out.lt; omega) ?_; intro v1 w1 ho1 hg1 _; have K3 := Lib.hid (K2.out.app hB (ys := xs ++ PT) hg1 (app_own ho1)); clear ho1 hg1; have hcv := own_conv K3.out.own)
                | (gi_at_builtin; refine wpListIn_append_ownF _ rfl _ _ 22 rfl (Ls + 1) 5 i0 (.int .u8 0) 1 1 Tryd.underlying22 hi0 hz0 hz1 hz2 rfl (by decide) _ _ _ rfl (K3.out.alloc hB _).own ⟨_, 0, none⟩ 1 1 [.int .u8 32] rfl rfl (cells_one _ _ _) (by intro u hu; simp at hu; subst hu; rfl) (by have := HAR.out; rw [List.length_append]; unfold maxLen; omega) (by have := HAR.out; rw [List.length_append]; omega) (by have := (K3.out.alloc hB (.cells #[.int .u8 32] 5)).lt; omega) ?_; intro v2 w2 ho2 hg2 _; have K4 := Lib.hid ((K3.out.alloc hB _).app hB (ys := (xs ++ PT) ++ [32]) hg2 (app_blank ho2)); clear ho2 hg2)
                | fail)
              go_roundw
              case rel => exact ⟨k + 1, k + 1, pre, bl, (xs ++ PT) ++ [32], by omega, by go_num, by go_num, K4.out, by have := HAR.out; simp only [List.length_append, List.length_cons, List.length_nil]; omega, HQ.out⟩
              case measure => simp only [intOf]; omega
            | false =>
              have HQ := Lib.hid (show (pre ++ [(k + 1, trimL (xs ++ PT))]) ++ wholesL (ls.drop (k + 1)) (k + 1) 0 [] = wholesL ls 0 0 [] by rw [← HP.out, HOU.out _ _ rfl rfl, if_pos rfl, List.append_assoc]; rfl)
              clear HSK HON HOU HP
              gi_wp2_with (first
                | (refine ⟨trivial, ?_⟩; gi_at_call 23; refine (callsIn_wide.2 (HTS.out _)).mono ?_; clear HTS; rintro e V ⟨rfl, rfl⟩)
                | (refine ⟨trivial, fun _ => by omega, ?_⟩; gi_at_call 23; refine (callsIn_wide.2 (HTS.out _)).mono ?_; clear HTS; rintro e V ⟨rfl, rfl⟩)
                | (refine ⟨trivial, ?_⟩; gi_at_call 24; refine (callsIn_wide.2 (HRM.out _)).mono ?_; clear HRM; rintro e V1 ⟨rfl, hx⟩; have K1 := Lib.hid (HK.out.below hB hx); clear hx)
                | (refine ⟨trivial, fun _ => by omega, ?_⟩; gi_at_call 24; refine (callsIn_wide.2 (HRM.out _)).mono ?_; clear HRM; rintro e V1 ⟨rfl, hx⟩; have K1 := Lib.hid (HK.out.below hB hx); clear hx)
                | (refine ⟨trivial, ?_⟩; gi_at_call 25; refine (callsIn_wide.2 (HBL.out _)).mono ?_; clear HBL; rintro e V2 ⟨rfl, hx⟩; have K2 := Lib.hid (K1.out.below hB hx); clear hx)
                | (refine ⟨trivial, fun _ => by omega, ?_⟩; gi_at_call 25; refine (callsIn_wide.2 (HBL.out _)).mono ?_; clear HBL; rintro e V2 ⟨rfl, hx⟩; have K2 := Lib.hid (K1.out.below hB hx); clear hx)
                | (refine ⟨trivial, ?_⟩; gi_at_call 26; refine (callsIn_wide.2 (HCS.out _)).mono ?_; clear HCS; rintro e V3 ⟨rfl, rfl⟩)
                | (refine ⟨trivial, fun _ => by omega, ?_⟩; gi_at_call 26; refine (callsIn_wide.2 (HCS.out _)).mono ?_; clear HCS; rintro e V3 ⟨rfl, rfl⟩)
                | (gi_at_builtin; refine Lib.wpListIn_append_own_stringF _ rfl _ _ 22 9 rfl (Ls + 1) 5 i0 Tryd.underlying22 Tryd.underlying9 hi0 hz0 hz1 hz2 _ _ _ rfl K2.out.own (bs PT) rfl (by have := HAR.out; rw [bs_size]; unfold maxLen; omega) (by have := HAR.out; rw [bs_size]; omega) (by have := K2.out.lt; omega) ?_; intro v1 w1 ho1 hg1 _; have K3 := Lib.hid (K2.out.app hB (ys := xs ++ PT) hg1 (app_own ho1)); clear ho1 hg1; have hcv := own_conv K3.out.own)
                | (refine ⟨trivial, ?_⟩; gi_at_call 27; refine (callsIn_wide.2 (HTR.out _)).mono ?_; clear HTR; rintro e V5 ⟨rfl, hx⟩; have K5 := Lib.hid (K3.out.below hB hx); clear hx; obtain ⟨fn, tmps, assign, body, hy, hR⟩ := hY pre bl (k + 1, trimL (xs ++ PT)) V5 K5.out.j (by have := HAR.out; refine Nat.le_trans (trim_len _) ?_; rw [List.length_append]; omega) (by have h1 := congrArg List.length HQ.out; have h2 := HTT.out; simp only [List.length_append] at h1; omega); have HR := Lib.hid hR; clear hR; dsimp only at hy; rw [hkk] at hy)
                | (refine ⟨trivial, fun _ => by omega, ?_⟩; gi_at_call 27; refine (callsIn_wide.2 (HTR.out _)).mono ?_; clear HTR; rintro e V5 ⟨rfl, hx⟩; have K5 := Lib.hid (K3.out.below hB hx); clear hx; obtain ⟨fn, tmps, assign, body, hy, hR⟩ := hY pre bl (k + 1, trimL (xs ++ PT)) V5 K5.out.j (by have := HAR.out; refine Nat.le_trans (trim_len _) ?_; rw [List.length_append]; omega) (by have h1 := congrArg List.length HQ.out; have h2 := HTT.out; simp only [List.length_append] at h1; omega); have HR := Lib.hid hR; clear hR; dsimp only at hy; rw [hkk] at hy)
                | fail)
              refine ⟨fun _ => by omega, HR.out.mono ?_⟩
              rintro e W' ⟨rfl, bl', hj, hs⟩
              have K6 := Lib.hid (K5.out.round hB hj hs)
              clear hj hs hy
              gi_wp2
              go_roundw
              case rel => exact ⟨k + 1, 0, pre ++ [(k + 1, trimL (xs ++ PT))], bl', [], by omega, rfl, by go_num, K6.out, by have := HAR.out; simp only [List.length_nil]; omega, HQ.out⟩
              case measure => simp only [intOf]; omega
        · have hbz : ((bb : Int) == 0) = false := beq_eq_false_iff_ne.mpr (by omega)
          have hsk : (false || (decide (bb = 0) && r2)) = false := by rw [decide_eq_false hb0]; rfl
          cases r3 with
          | true =>
            have HQ := Lib.hid (show pre ++ wholesL (ls.drop (k + 1)) (k + 1) bb ((xs ++ PT) ++ [32]) = wholesL ls 0 0 [] by rw [← HP.out, HON.out _ _ hsk rfl, if_neg hb0])
            clear HSK HON HOU HP HTR HBL hsk
            gi_wp2_with (first
              | (refine ⟨trivial, ?_⟩; gi_at_call 23; refine (callsIn_wide.2 (HTS.out _)).mono ?_; clear HTS; rintro e V ⟨rfl, rfl⟩)
              | (refine ⟨trivial, fun _ => by omega, ?_⟩; gi_at_call 23; refine (callsIn_wide.2 (HTS.out _)).mono ?_; clear HTS; rintro e V ⟨rfl, rfl⟩)
              | (refine ⟨trivial, ?_⟩; gi_at_call 24; refine (callsIn_wide.2 (HRM.out _)).mono ?_; clear HRM; rintro e V1 ⟨rfl, hx⟩; have K1 := Lib.hid (HK.out.below hB hx); clear hx)
              | (refine ⟨trivial, fun _ => by omega, ?_⟩; gi_at_call 24; refine (callsIn_wide.2 (HRM.out _)).mono ?_; clear HRM; rintro e V1 ⟨rfl, hx⟩; have K1 := Lib.hid (HK.out.below hB hx); clear hx)
              | (refine ⟨trivial, ?_⟩; gi_at_call 26; refine (callsIn_wide.2 (HCS.out _)).mono ?_; clear HCS; rintro e V3 ⟨rfl, rfl⟩)
              | (refine ⟨trivial, fun _ => by omega, ?_⟩; gi_at_call 26; refine (callsIn_wide.2 (HCS.out _)).mono ?_; clear HCS; rintro e V3 ⟨rfl, rfl⟩)
              | (gi_at_builtin; refine Lib.wpListIn_append_own_stringF _ rfl _ _ 22 9 rfl (Ls + 1) 5 i0 Tryd.underlying22 Tryd.underlying9 hi0 hz0 hz1 hz2 _ _ _ rfl K1.out.own (bs PT) rfl (by have := HAR.out; rw [bs_size]; unfold maxLen; omega) (by have := HAR.out; rw [bs_size]; omega) (by have := K1.out.lt; omega) ?_; intro v1 w1 ho1 hg1 _; have K3 := Lib.hid (K1.out.app hB (ys := xs ++ PT) hg1 (app_own ho1)); clear ho1 hg1; have hcv := own_conv K3.out.own)
              | (gi_at_builtin; refine wpListIn_append_ownF _ rfl _ _ 22 rfl (Ls + 1) 5 i0 (.int .u8 0) 1 1 Tryd.underlying22 hi0 hz0 hz1 hz2 rfl (by decide) _ _ _ rfl (K3.out.alloc hB _).own ⟨_, 0, none⟩ 1 1 [.int .u8 32] rfl rfl (cells_one _ _ _) (by intro u hu; simp at hu; subst hu; rfl) (by have := HAR.out; rw [List.length_append]; unfold maxLen; omega) (by have := HAR.out; rw [List.length_append]; omega) (by have := (K3.out.alloc hB (.cells #[.int .u8 32] 5)).lt; omega) ?_; intro v2 w2 ho2 hg2 _; have K4 := Lib.hid ((K3.out.alloc hB _).app hB (ys := (xs ++ PT) ++ [32]) hg2 (app_blank ho2)); clear ho2 hg2)
              | fail)
            refine ⟨trivial, ?_⟩
            gi_wp2_with (first
              | (refine ⟨trivial, ?_⟩; gi_at_call 23; refine (callsIn_wide.2 (HTS.out _)).mono ?_; clear HTS; rintro e V ⟨rfl, rfl⟩)
              | (refine ⟨trivial, fun _ => by omega, ?_⟩; gi_at_call 23; refine (callsIn_wide.2 (HTS.out _)).mono ?_; clear HTS; rintro e V ⟨rfl, rfl⟩)
              | (refine ⟨trivial, ?_⟩; gi_at_call 24; refine (callsIn_wide.2 (HRM.out _)).mono ?_; clear HRM; rintro e V1 ⟨rfl, hx⟩; have K1 := Lib.hid (HK.out.below hB hx); clear hx)
              | (refine ⟨trivial, fun _ => by omega, ?_⟩; gi_at_call 24; refine (callsIn_wide.2 (HRM.out _)).mono ?_; clear HRM; rintro e V1 ⟨rfl, hx⟩; have K1 := Lib.hid (HK.out.below hB hx); clear hx)
              | (refine ⟨trivial, ?_⟩; gi_at_call 26; refine (callsIn_wide.2 (HCS.out _)).mono ?_; clear HCS; rintro e V3 ⟨rfl, rfl⟩)
              | (refine ⟨trivial, fun _ => by omega, ?_⟩; gi_at_call 26; refine (callsIn_wide.2 (HCS.out _)).mono ?_; clear HCS; rintro e V3 ⟨rfl, rfl⟩)
              | (gi_at_builtin; refine Lib.wpListIn_append_own_stringF _ rfl _ _ 22 9 rfl (Ls + 1) 5 i0 Tryd.underlying22 Tryd.underlying9 hi0 hz0 hz1 hz2 _ _ _ rfl K1.out.own (bs PT) rfl (by have := HAR.out; rw [bs_size]; unfold maxLen; omega) (by have := HAR.out; rw [bs_size]; omega) (by have := K1.out.lt; omega) ?_; intro v1 w1 ho1 hg1 _; have K3 := Lib.hid (K1.out.app hB (ys := xs ++ PT) hg1 (app_own ho1)); clear ho1 hg1; have hcv := own_conv K3.out.own)
              | (gi_at_builtin; refine wpListIn_append_ownF _ rfl _ _ 22 rfl (Ls + 1) 5 i0 (.int .u8 0) 1 1 Tryd.underlying22 hi0 hz0 hz1 hz2 rfl (by decide) _ _ _ rfl (K3.out.alloc hB _).own ⟨_, 0, none⟩ 1 1 [.int .u8 32] rfl rfl (cells_one _ _ _) (by intro u hu; simp at hu; subst hu; rfl) (by have := HAR.out; rw [List.length_append]; unfold maxLen; omega) (by have := HAR.out; rw [List.length_append]; omega) (by have := (K3.out.alloc hB (.cells #[.int .u8 32] 5)).lt; omega) ?_; intro v2 w2 ho2 hg2 _; have K4 := Lib.hid ((K3.out.alloc hB _).app hB (ys := (xs ++ PT) ++ [32]) hg2 (app_blank ho2)); clear ho2 hg2)
              | fail)
            go_roundw
            case rel => exact ⟨k + 1, bb, pre, bl, (xs ++ PT) ++ [32], by omega, by go_num, by go_num, K4.out, by have := HAR.out; simp only [List.length_append, List.length_cons, List.length_nil]; omega, HQ.out⟩
            case measure => simp only [intOf]; omega
          | false =>
            have HQ := Lib.hid (show (pre ++ [(bb, trimL (xs ++ PT))]) ++ wholesL (ls.drop (k + 1)) (k + 1) 0 [] = wholesL ls 0 0 [] by rw [← HP.out, HOU.out _ _ hsk rfl, if_neg hb0, List.append_assoc]; rfl)
            clear HSK HON HOU HP HBL hsk
            gi_wp2_with (first
              | (refine ⟨trivial, ?_⟩; gi_at_call 23; refine (callsIn_wide.2 (HTS.out _)).mono ?_; clear HTS; rintro e V ⟨rfl, rfl⟩)
              | (refine ⟨trivial, fun _ => by omega, ?_⟩; gi_at_call 23; refine (callsIn_wide.2 (HTS.out _)).mono ?_; clear HTS; rintro e V ⟨rfl, rfl⟩)
              | (refine ⟨trivial, ?_⟩; gi_at_call 24; refine (callsIn_wide.2 (HRM.out _)).mono ?_; clear HRM; rintro e V1 ⟨rfl, hx⟩; have K1 := Lib.hid (HK.out.below hB hx); clear hx)
              | (refine ⟨trivial, fun _ => by omega, ?_⟩; gi_at_call 24; refine (callsIn_wide.2 (HRM.out _)).mono ?_; clear HRM; rintro e V1 ⟨rfl, hx⟩; have K1 := Lib.hid (HK.out.below hB hx); clear hx)
              | (refine ⟨trivial, ?_⟩; gi_at_call 26; refine (callsIn_wide.2 (HCS.out _)).mono ?_; clear HCS; rintro e V3 ⟨rfl, rfl⟩)
              | (refine ⟨trivial, fun _ => by omega, ?_⟩; gi_at_call 26; refine (callsIn_wide.2 (HCS.out _)).mono ?_; clear HCS; rintro e V3 ⟨rfl, rfl⟩)
              | (gi_at_builtin; refine Lib.wpListIn_append_own_stringF _ rfl _ _ 22 9 rfl (Ls + 1) 5 i0 Tryd.underlying22 Tryd.underlying9 hi0 hz0 hz1 hz2 _ _ _ rfl K1.out.own (bs PT) rfl (by have := HAR.out; rw [bs_size]; unfold maxLen; omega) (by have := HAR.out; rw [bs_size]; omega) (by have := K1.out.lt; omega) ?_; intro v1 w1 ho1 hg1 _; have K3 := Lib.hid (K1.out.app hB (ys := xs ++ PT) hg1 (app_own ho1)); clear ho1 hg1; have hcv := own_conv K3.out.own)
              | (refine ⟨trivial, ?_⟩; gi_at_call 27; refine (callsIn_wide.2 (HTR.out _)).mono ?_; clear HTR; rintro e V5 ⟨rfl, hx⟩; have K5 := Lib.hid (K3.out.below hB hx); clear hx; obtain ⟨fn, tmps, assign, body, hy, hR⟩ := hY pre bl (bb, trimL (xs ++ PT)) V5 K5.out.j (by have := HAR.out; refine Nat.le_trans (trim_len _) ?_; rw [List.length_append]; omega) (by have h1 := congrArg List.length HQ.out; have h2 := HTT.out; simp only [List.length_append] at h1; omega); have HR := Lib.hid hR; clear hR; dsimp only at hy)
              | (refine ⟨trivial, fun _ => by omega, ?_⟩; gi_at_call 27; refine (callsIn_wide.2 (HTR.out _)).mono ?_; clear HTR; rintro e V5 ⟨rfl, hx⟩; have K5 := Lib.hid (K3.out.below hB hx); clear hx; obtain ⟨fn, tmps, assign, body, hy, hR⟩ := hY pre bl (bb, trimL (xs ++ PT)) V5 K5.out.j (by have := HAR.out; refine Nat.le_trans (trim_len _) ?_; rw [List.length_append]; omega) (by have h1 := congrArg List.length HQ.out; have h2 := HTT.out; simp only [List.length_append] at h1; omega); have HR := Lib.hid hR; clear hR; dsimp only at hy)
              | fail)
            refine ⟨trivial, ?_⟩
            gi_wp2_with (first
              | (refine ⟨trivial, ?_⟩; gi_at_call 23; refine (callsIn_wide.2 (HTS.out _)).mono ?_; clear HTS; rintro e V ⟨rfl, rfl⟩)
              | (refine ⟨trivial, fun _ => by omega, ?_⟩; gi_at_call 23; refine (callsIn_wide.2 (HTS.out _)).mono ?_; clear HTS; rintro e V ⟨rfl, rfl⟩)
              | (refine ⟨trivial, ?_⟩; gi_at_call 24; refine (callsIn_wide.2 (HRM.out _)).mono ?_; clear HRM; rintro e V1 ⟨rfl, hx⟩; have K1 := Lib.hid (HK.out.below hB hx); clear hx)
              | (refine ⟨trivial, fun _ => by omega, ?_⟩; gi_at_call 24; refine (callsIn_wide.2 (HRM.out _)).mono ?_; clear HRM; rintro e V1 ⟨rfl, hx⟩; have K1 := Lib.hid (HK.out.below hB hx); clear hx)
              | (refine ⟨trivial, ?_⟩; gi_at_call 26; refine (callsIn_wide.2 (HCS.out _)).mono ?_; clear HCS; rintro e V3 ⟨rfl, rfl⟩)
              | (refine ⟨trivial, fun _ => by omega, ?_⟩; gi_at_call 26; refine (callsIn_wide.2 (HCS.out _)).mono ?_; clear HCS; rintro e V3 ⟨rfl, rfl⟩)
              | (gi_at_builtin; refine Lib.wpListIn_append_own_stringF _ rfl _ _ 22 9 rfl (Ls + 1) 5 i0 Tryd.underlying22 Tryd.underlying9 hi0 hz0 hz1 hz2 _ _ _ rfl K1.out.own (bs PT) rfl (by have := HAR.out; rw [bs_size]; unfold maxLen; omega) (by have := HAR.out; rw [bs_size]; omega) (by have := K1.out.lt; omega) ?_; intro v1 w1 ho1 hg1 _; have K3 := Lib.hid (K1.out.app hB (ys := xs ++ PT) hg1 (app_own ho1)); clear ho1 hg1; have hcv := own_conv K3.out.own)
              | (refine ⟨trivial, ?_⟩; gi_at_call 27; refine (callsIn_wide.2 (HTR.out _)).mono ?_; clear HTR; rintro e V5 ⟨rfl, hx⟩; have K5 := Lib.hid (K3.out.below hB hx); clear hx; obtain ⟨fn, tmps, assign, body, hy, hR⟩ := hY pre bl (bb, trimL (xs ++ PT)) V5 K5.out.j (by have := HAR.out; refine Nat.le_trans (trim_len _) ?_; rw [List.length_append]; omega) (by have h1 := congrArg List.length HQ.out; have h2 := HTT.out; simp only [List.length_append] at h1; omega); have HR := Lib.hid hR; clear hR; dsimp only at hy)
              | (refine ⟨trivial, fun _ => by omega, ?_⟩; gi_at_call 27; refine (callsIn_wide.2 (HTR.out _)).mono ?_; clear HTR; rintro e V5 ⟨rfl, hx⟩; have K5 := Lib.hid (K3.out.below hB hx); clear hx; obtain ⟨fn, tmps, assign, body, hy, hR⟩ := hY pre bl (bb, trimL (xs ++ PT)) V5 K5.out.j (by have := HAR.out; refine Nat.le_trans (trim_len _) ?_; rw [List.length_append]; omega) (by have h1 := congrArg List.length HQ.out; have h2 := HTT.out; simp only [List.length_append] at h1; omega); have HR := Lib.hid hR; clear hR; dsimp only at hy)
              | fail)
            refine ⟨fun _ => by omega, HR.out.mono ?_⟩
            rintro e W' ⟨rfl, bl', hj, hs⟩
            have K6 := Lib.hid (K5.out.round hB hj hs)
            clear hj hs hy
            gi_wp2
            go_roundw
            case rel => exact ⟨k + 1, 0, pre ++ [(bb, trimL (xs ++ PT))], bl', [], by omega, rfl, by go_num, K6.out, by have := HAR.out; simp only [List.length_nil]; omega, HQ.out⟩
            case measure => simp only [intOf]; omega
    · obtain rfl : k = N := by omega
      have hd : ls.drop k = [] := List.drop_eq_nil_of_le (by have := HNE.out; omega)
      rw [hd] at htt
      have HE := HP.out
      rw [hd] at HE
      by_cases hb0 : bb = 0
      · subst hb0
        have HQ := Lib.hid (show pre = wholesL ls 0 0 [] by rw [← HE]; show pre = pre ++ []; simp)
        clear HE HP
        gi_wp2
        go_end0
        exact ⟨⟨_, rfl⟩, bl, HQ.out ▸ HK.out.j⟩
      · have hb1 : (0 : Int) < (bb : Int) := by omega
        have HQ := Lib.hid (show pre ++ [(bb, trimL xs)] = wholesL ls 0 0 [] by rw [← HE]; show pre ++ [(bb, trimL xs)] = pre ++ (if bb = 0 then [] else [(bb, trimL xs)]); rw [if_neg hb0])
        have HTR : Hid (∀ V, Calls Tryd.prog 27 #[.string (bs xs)] V fun e w' => e = .returned (.string (bs (trimL xs))) ∧ Below V.heap.size V w') := Lib.hid fun V => trim_any _ (by omega) V
        have hcv := own_conv HK.out.own
        have HXL : Hid (xs.length ≤ 1000000) := Lib.hid (by omega)
        clear HE HP htt
        gi_wp2_with (first
          | (refine ⟨trivial, ?_⟩; gi_at_call 27; refine (callsIn_wide.2 (HTR.out _)).mono ?_; clear HTR; rintro e V5 ⟨rfl, hx⟩; have K5 := Lib.hid (HK.out.below hB hx); clear hx; obtain ⟨fn, tmps, assign, body, hy, hR⟩ := hY pre bl (bb, trimL xs) V5 K5.out.j (Nat.le_trans (trim_len _) HXL.out) (by have h1 := congrArg List.length HQ.out; have h2 := HTT.out; simp only [List.length_append] at h1; omega); have HR := Lib.hid hR; clear hR; dsimp only at hy)
          | (refine ⟨trivial, fun _ => by omega, ?_⟩; gi_at_call 27; refine (callsIn_wide.2 (HTR.out _)).mono ?_; clear HTR; rintro e V5 ⟨rfl, hx⟩; have K5 := Lib.hid (HK.out.below hB hx); clear hx; obtain ⟨fn, tmps, assign, body, hy, hR⟩ := hY pre bl (bb, trimL xs) V5 K5.out.j (Nat.le_trans (trim_len _) HXL.out) (by have h1 := congrArg List.length HQ.out; have h2 := HTT.out; simp only [List.length_append] at h1; omega); have HR := Lib.hid hR; clear hR; dsimp only at hy)
          | fail)
        refine ⟨fun _ => by omega, HR.out.mono ?_⟩
        rintro e W' ⟨rfl, bl', hj, hs⟩
        have HJ := Lib.hid hj
        clear hj hs hy
        gi_wp2
        go_end0
        exact ⟨⟨_, rfl⟩, bl', HQ.out ▸ HJ.out⟩
end Go.Proofs.YtokeepmlibolfaaDoor.Ln
