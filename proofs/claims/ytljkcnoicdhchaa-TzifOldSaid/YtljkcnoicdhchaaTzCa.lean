/-
  Layer 6 (tzif): what is put, read back: its numbers (plain).
-/
import Derived.Test.YtljkcnoicdhchaaTzBo
import Derived.Lib.LazyBuf
namespace Go.Proofs.Ytljkcnoicdhchaa.Tz
open Go.RowKit

def nats (l : List Int) : List Nat := l.map Int.toNat
theorem nats_app (a b : List Int) : nats (a ++ b) = nats a ++ nats b := List.map_append
theorem nats_len (a : List Int) : (nats a).length = a.length := List.length_map ..
theorem nats_cons (x : Int) (l : List Int) : nats (x :: l) = x.toNat :: nats l := rfl
def Byt (l : List Int) : Prop := ∀ x ∈ l, 0 ≤ x ∧ x < 256
theorem Byt.app {a b : List Int} (ha : Byt a) (hb : Byt b) : Byt (a ++ b) := fun x hx => (List.mem_append.1 hx).elim (ha x) (hb x)
theorem Byt.lt {l : List Int} (h : Byt l) : ∀ b ∈ nats l, b < 256 := by
  intro b hb
  obtain ⟨x, hx, rfl⟩ := List.mem_map.1 hb
  have := h x hx
  omega
theorem be_fold : ∀ (l : List Nat) (a : Nat), l.foldl (fun n b => n * 256 + b) a = a * 256 ^ l.length + be l
  | [], a => by simp [be]
  | x :: l, a => by
    have h1 := be_fold l (a * 256 + x)
    have h2 := be_fold l (0 * 256 + x)
    show l.foldl (fun n b => n * 256 + b) (a * 256 + x) = a * 256 ^ (l.length + 1) + l.foldl (fun n b => n * 256 + b) (0 * 256 + x)
    rw [h1, h2, Nat.pow_succ, Nat.add_mul, Nat.zero_mul, Nat.zero_add, Nat.mul_assoc, Nat.mul_comm 256, Nat.add_assoc]
theorem be_cons (x : Nat) (l : List Nat) : be (x :: l) = x * 256 ^ l.length + be l := by
  have h : be (x :: l) = (0 * 256 + x) * 256 ^ l.length + be l := be_fold l (0 * 256 + x)
  rwa [Nat.zero_mul, Nat.zero_add] at h
theorem be_digs (n : Nat) : ∀ k, be (nats (digs n k)) = n % 256 ^ k
  | 0 => by rw [Nat.pow_zero, Nat.mod_one]; rfl
  | k + 1 => by
    show be (((n / 2 ^ (8 * k) % 256 : Nat) : Int).toNat :: nats (digs n k)) = _
    rw [be_cons, be_digs n k, nats_len, digs_len, Int.toNat_natCast, Nat.mod_pow_succ, show (2 : Nat) ^ (8 * k) = 256 ^ k by rw [Nat.pow_mul], Nat.mul_comm, Nat.add_comm]
theorem digs_byt (n : Nat) : ∀ k, Byt (digs n k)
  | 0 => by intro x hx; cases hx
  | k + 1 => by
    intro x hx
    rcases List.mem_cons.1 hx with rfl | hx
    · omega
    · exact digs_byt n k x hx
theorem be_four (n : Nat) (h : n < 4294967296) : be (nats (digs n 4)) = n := by rw [be_digs]; omega
theorem four_digs (n : Nat) (h : n < 4294967296) : ∃ a b c d, nats (digs n 4) = [a, b, c, d] ∧ be [a, b, c, d] = n := by
  refine ⟨_, _, _, _, rfl, ?_⟩
  exact be_four n h
/-! ### A head -/
theorem hd_read (h : Hd) (hc : ∀ n ∈ h.counts, n < 4294967296) (r : List Nat) : hdOf (nats (headB h) ++ r) = h ∧ (nats (headB h) ++ r).take 4 = [84, 90, 105, 102] ∧ (nats (headB h) ++ r).getD 4 0 = h.version := by
  obtain ⟨version, uts, stds, leaps, times, types, letters⟩ := h
  simp only [Hd.counts, List.mem_cons, List.not_mem_nil, or_false, forall_eq_or_imp, forall_eq] at hc
  obtain ⟨h1, h2, h3, h4, h5, h6⟩ := hc
  obtain ⟨a1, b1, c1, d1, e1, f1⟩ := four_digs _ h1
  obtain ⟨a2, b2, c2, d2, e2, f2⟩ := four_digs _ h2
  obtain ⟨a3, b3, c3, d3, e3, f3⟩ := four_digs _ h3
  obtain ⟨a4, b4, c4, d4, e4, f4⟩ := four_digs _ h4
  obtain ⟨a5, b5, c5, d5, e5, f5⟩ := four_digs _ h5
  obtain ⟨a6, b6, c6, d6, e6, f6⟩ := four_digs _ h6
  have e : nats (headB ⟨version, uts, stds, leaps, times, types, letters⟩) ++ r = 84 :: 90 :: 105 :: 102 :: version :: 0 :: 0 :: 0 :: 0 :: 0 :: 0 :: 0 :: 0 :: 0 :: 0 :: 0 :: 0 :: 0 :: 0 :: 0 :: a1 :: b1 :: c1 :: d1 :: a2 :: b2 :: c2 :: d2 :: a3 :: b3 :: c3 :: d3 :: a4 :: b4 :: c4 :: d4 :: a5 :: b5 :: c5 :: d5 :: a6 :: b6 :: c6 :: d6 :: r := by
    unfold headB Hd.counts
    simp only [List.flatMap_cons, List.flatMap_nil, nats_app, e1, e2, e3, e4, e5, e6]
    rfl
  rw [e]
  refine ⟨?_, rfl, rfl⟩
  show Hd.mk version (be [a1, b1, c1, d1]) (be [a2, b2, c2, d2]) (be [a3, b3, c3, d3]) (be [a4, b4, c4, d4]) (be [a5, b5, c5, d5]) (be [a6, b6, c6, d6]) = _
  rw [f1, f2, f3, f4, f5, f6]
theorem hd_good (h : Hd) (hc : ∀ n ∈ h.counts, n < 4294967296) (hv : h.version = 0 ∨ h.version = 50 ∨ h.version = 51) (r : List Nat) : hdGood (nats (headB h) ++ r) = true := by
  obtain ⟨_, h2, h3⟩ := hd_read h hc r
  unfold hdGood
  rw [h2, h3, List.length_append, nats_len, headB_len]
  simp only [Bool.and_eq_true, Bool.or_eq_true, decide_eq_true_eq]
  exact ⟨⟨by omega, trivial⟩, by omega⟩
theorem hd_drop (h : Hd) (r : List Nat) : (nats (headB h) ++ r).drop 44 = r := List.drop_left' (by rw [nats_len, headB_len])
/-! ### Rows of numbers -/
def val8 (l : List Nat) : Int := wrap64 (be l)
def val4 (l : List Nat) : Int := wrap64 (wrap32 (be l))
def val1 (l : List Nat) : Int := be l
theorem digs8_val (t : Int) (h : -9223372036854775808 ≤ t ∧ t ≤ 9223372036854775807) : val8 (nats (digs (IntKind.u64.wrap t).toNat 8)) = t := by
  unfold val8
  rw [be_digs, IntKind.wrap_u64]
  unfold wrap64
  omega
theorem digs4_val (t : Int) (h : -2147483648 ≤ t ∧ t ≤ 2147483647) : val4 (nats (digs (IntKind.u64.wrap t).toNat 4)) = t := by
  unfold val4
  rw [be_digs, IntKind.wrap_u64]
  unfold wrap64 wrap32
  omega
def times4 (l : List Int) : List Int := l.flatMap fun t => digs (IntKind.u64.wrap t).toNat 4
theorem vals_step (kk : Nat) (val : List Nat → Int) (n : Nat) (a b : List Nat) (h : a.length = kk) : vals kk val (n + 1) (a ++ b) = val a :: vals kk val n b := by
  show val ((a ++ b).take kk) :: vals kk val n ((a ++ b).drop kk) = _
  rw [List.take_left' h, List.drop_left' h]
theorem vals_times8 : ∀ (ts : List Int) (r : List Nat), (∀ t ∈ ts, -9223372036854775808 ≤ t ∧ t ≤ 9223372036854775807) → vals 8 val8 ts.length (nats (timesB ts) ++ r) = ts
  | [], _, _ => rfl
  | t :: ts, r, h => by
    have e : nats (timesB (t :: ts)) ++ r = nats (digs (IntKind.u64.wrap t).toNat 8) ++ (nats (timesB ts) ++ r) := by
      unfold timesB; rw [List.flatMap_cons, nats_app, List.append_assoc]
    rw [e, List.length_cons, vals_step _ _ _ _ _ (by rw [nats_len, digs_len]), digs8_val t (h t (by simp)), vals_times8 ts r (fun x hx => h x (by simp [hx]))]
theorem vals_times4 : ∀ (ts : List Int) (r : List Nat), (∀ t ∈ ts, -2147483648 ≤ t ∧ t ≤ 2147483647) → vals 4 val4 ts.length (nats (times4 ts) ++ r) = ts
  | [], _, _ => rfl
  | t :: ts, r, h => by
    have e : nats (times4 (t :: ts)) ++ r = nats (digs (IntKind.u64.wrap t).toNat 4) ++ (nats (times4 ts) ++ r) := by
      unfold times4; rw [List.flatMap_cons, nats_app, List.append_assoc]
    rw [e, List.length_cons, vals_step _ _ _ _ _ (by rw [nats_len, digs_len]), digs4_val t (h t (by simp)), vals_times4 ts r (fun x hx => h x (by simp [hx]))]
theorem vals_index : ∀ (is : List Int) (r : List Nat), (∀ i ∈ is, 0 ≤ i ∧ i ≤ 254) → vals 1 val1 is.length (nats (indexB is) ++ r) = is
  | [], _, _ => rfl
  | i :: is, r, h => by
    have hi := h i (by simp)
    have e : nats (indexB (i :: is)) ++ r = [(i % 256).toNat] ++ (nats (indexB is) ++ r) := rfl
    rw [e, List.length_cons, vals_step 1 val1 is.length [(i % 256).toNat] _ rfl, vals_index is r (fun x hx => h x (by simp [hx]))]
    have : val1 [(i % 256).toNat] = i := by
      show ((0 * 256 + (i % 256).toNat : Nat) : Int) = i
      omega
    rw [this]
/-! ### Rows of types -/
/-- The rows that types are put as, so many letters being put. -/
def rowsOf : List Ty → Nat → List Rw
  | [], _ => []
  | t :: l, k => ⟨t.off, dstB t, (k : Int) % 256⟩ :: rowsOf l (k + (t.abbr.size + 1))
theorem rowsOf_len : ∀ (l : List Ty) (k : Nat), (rowsOf l k).length = l.length
  | [], _ => rfl
  | t :: l, k => by unfold rowsOf; rw [List.length_cons, List.length_cons, rowsOf_len l]
theorem rw_read (t : Ty) (k : Nat) (r : List Nat) (h : -89999 ≤ t.off ∧ t.off ≤ 93599) : rwOf (nats (digs (offN t) 4 ++ [dstB t, (k : Int) % 256]) ++ r) = ⟨t.off, dstB t, (k : Int) % 256⟩ := by
  have hv := digs4_val t.off (by omega)
  obtain ⟨a, b, c, d, e⟩ : ∃ a b c d, nats (digs (offN t) 4) = [a, b, c, d] := ⟨_, _, _, _, rfl⟩
  have e2 : nats (digs (offN t) 4 ++ [dstB t, (k : Int) % 256]) ++ r = a :: b :: c :: d :: (dstB t).toNat :: ((k : Int) % 256).toNat :: r := by
    rw [nats_app, e]; rfl
  rw [e2]
  show Rw.mk (val4 [a, b, c, d]) ((0 * 256 + (dstB t).toNat : Nat) : Int) ((0 * 256 + ((k : Int) % 256).toNat : Nat) : Int) = _
  rw [← e]
  unfold offN
  rw [hv]
  have h1 : ((0 * 256 + (dstB t).toNat : Nat) : Int) = dstB t := by unfold dstB; split <;> rfl
  have h2 : ((0 * 256 + ((k : Int) % 256).toNat : Nat) : Int) = (k : Int) % 256 := by omega
  rw [h1, h2]
theorem rws_read : ∀ (l : List Ty) (k : Nat) (r : List Nat), (∀ t ∈ l, -89999 ≤ t.off ∧ t.off ≤ 93599) → rws l.length (nats (typesB l k) ++ r) = rowsOf l k
  | [], _, _, _ => rfl
  | t :: l, k, r, h => by
    have e : nats (typesB (t :: l) k) ++ r = nats (digs (offN t) 4 ++ [dstB t, (k : Int) % 256]) ++ (nats (typesB l (k + (t.abbr.size + 1))) ++ r) := by
      rw [show typesB (t :: l) k = digs (offN t) 4 ++ ([dstB t, (k : Int) % 256] ++ typesB l (k + (t.abbr.size + 1))) from rfl]
      simp only [nats_app, List.append_assoc]
    rw [e]
    show rwOf _ :: rws l.length ((nats (digs (offN t) 4 ++ [dstB t, (k : Int) % 256]) ++ (nats (typesB l (k + (t.abbr.size + 1))) ++ r)).drop 6) = _
    rw [rw_read t k _ (h t (by simp)), List.drop_left' (by rw [nats_len, List.length_append, digs_len]; rfl), rws_read l _ r (fun x hx => h x (by simp [hx]))]
    rfl
/-! ### Letters -/
theorem bytesOf_byt (s : ByteArray) : Byt (bytesOf s) := by
  intro x hx
  unfold bytesOf at hx
  obtain ⟨b, _, rfl⟩ := List.mem_map.1 hx
  have := b.toNat_lt
  omega
theorem text_back (s : ByteArray) : strOfNums (natsI (nats (bytesOf s))) = s := by
  have e : natsI (nats (bytesOf s)) = s.data.toList.map fun b => (b.toNat : Int) := by
    unfold natsI nats bytesOf
    rw [List.map_map, List.map_map]
    apply List.map_congr_left
    intro b _
    show (((b.toNat : Int).toNat : Nat) : Int) = _
    omega
  rw [e, Lib.Lz.strOfNums_map]
theorem till0_text : ∀ (a : List Nat) (r : List Nat), (∀ x ∈ a, x ≠ 0) → till0 (a ++ 0 :: r) = a
  | [], _, _ => by unfold till0; simp
  | x :: a, r, h => by
    have h1 := till0_text a r (fun y hy => h y (by simp [hy]))
    unfold till0 at h1 ⊢
    rw [List.cons_append, List.takeWhile_cons, if_pos (by simpa using h x (by simp)), h1]
theorem abbr_no0 {t : Ty} (h : rightTy t = true) : ∀ x ∈ nats (bytesOf t.abbr), x ≠ 0 := by
  intro x hx
  unfold rightTy onlyB at h
  simp only [Bool.and_eq_true, List.all_eq_true] at h
  obtain ⟨y, hy, rfl⟩ := List.mem_map.1 hx
  unfold bytesOf at hy
  obtain ⟨b, hb, rfl⟩ := List.mem_map.1 hy
  have := h.2 b hb
  unfold inI at this
  simp only [Bool.and_eq_true, decide_eq_true_eq] at this
  omega
/-- The letters of a type, found at their place. -/
theorem letters_at (pre : List Nat) (t : Ty) (post : List Nat) (h : rightTy t = true) : lettersV (pre ++ (nats (bytesOf t.abbr) ++ 0 :: post)) pre.length = some (nats (bytesOf t.abbr)) := by
  unfold lettersV
  rw [List.drop_left' rfl, if_pos (by simp), till0_text _ _ (abbr_no0 h)]
/-- The type of a row. -/
def tyOf (L : List Nat) (r : Rw) : Option Ty := if r.dst ≤ 1 then (lettersV L r.place.toNat).map fun t => ⟨r.off, decide (r.dst = 1), strOfNums (natsI t)⟩ else none
def tysOf (L : List Nat) : List Rw → Option (List Ty)
  | [] => some []
  | r :: l => (tyOf L r).bind fun t => (tysOf L l).map fun ts => t :: ts
theorem letters_cons (t : Ty) (l : List Ty) : letters (t :: l) = t.abbr.size + 1 + letters l := by unfold letters; rw [List.map_cons, List.sum_cons]
theorem tys_back : ∀ (l : List Ty) (pre : List Nat) (post : List Nat), (∀ t ∈ l, rightTy t = true) → pre.length + letters l ≤ 256 → tysOf (pre ++ (nats (lettersB l) ++ post)) (rowsOf l pre.length) = some l
  | [], _, _, _, _ => rfl
  | t :: l, pre, post, h, hl => by
    have ht := h t (by simp)
    have hs : 1 ≤ t.abbr.size := by
      unfold rightTy inI at ht
      simp only [Bool.and_eq_true, decide_eq_true_eq] at ht
      omega
    rw [letters_cons] at hl
    have e : nats (lettersB (t :: l)) ++ post = nats (bytesOf t.abbr) ++ 0 :: (nats (lettersB l) ++ post) := by
      rw [show lettersB (t :: l) = bytesOf t.abbr ++ ([0] ++ lettersB l) from rfl]
      simp only [nats_app, List.append_assoc]
      rfl
    have h1 : tyOf (pre ++ (nats (lettersB (t :: l)) ++ post)) ⟨t.off, dstB t, (pre.length : Int) % 256⟩ = some t := by
      unfold tyOf
      simp only
      rw [e, show ((pre.length : Int) % 256).toNat = pre.length by omega, letters_at pre t _ ht, if_pos (by unfold dstB; split <;> omega)]
      show some (Ty.mk t.off (decide (dstB t = 1)) (strOfNums (natsI (nats (bytesOf t.abbr))))) = _
      rw [text_back]
      have : decide (dstB t = 1) = t.dst := by unfold dstB; cases t.dst <;> rfl
      rw [this]
    have h2 := tys_back l (pre ++ (nats (bytesOf t.abbr) ++ [0])) post (fun x hx => h x (by simp [hx])) (by simp [nats_len, bytesOf_len]; omega)
    have e3 : (pre ++ (nats (bytesOf t.abbr) ++ [0])).length = pre.length + (t.abbr.size + 1) := by simp [nats_len, bytesOf_len]
    have e4 : (pre ++ (nats (bytesOf t.abbr) ++ [0])) ++ (nats (lettersB l) ++ post) = pre ++ (nats (lettersB (t :: l)) ++ post) := by rw [e]; simp
    rw [e3, e4] at h2
    show (tyOf _ _).bind _ = _
    rw [h1]
    show (tysOf _ _).map _ = _
    rw [h2]
    rfl
theorem lettersB_byt : ∀ l : List Ty, Byt (lettersB l)
  | [] => by intro x hx; cases hx
  | t :: l => by
    unfold lettersB
    exact (bytesOf_byt _).app (Byt.app (by intro x hx; simp at hx; omega) (lettersB_byt l))
theorem typesB_byt : ∀ (l : List Ty) (k : Nat), Byt (typesB l k)
  | [], _ => by intro x hx; cases hx
  | t :: l, k => by
    unfold typesB
    refine (digs_byt _ 4).app (Byt.app ?_ (typesB_byt l _))
    intro x hx
    simp only [List.mem_cons, List.not_mem_nil, or_false] at hx
    rcases hx with rfl | rfl
    · unfold dstB; split <;> omega
    · omega
end Go.Proofs.Ytljkcnoicdhchaa.Tz
