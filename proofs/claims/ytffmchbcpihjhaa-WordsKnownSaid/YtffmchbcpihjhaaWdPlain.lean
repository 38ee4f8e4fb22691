/-
  Layer 12 (words): what words are, over lists of bytes: a machine that takes byte after byte. Nothing of the program stands here.
-/
import Derived.ProofKit
import Derived.KernelRfl
namespace Go.Proofs.Ytffmchbcpihjhaa.Wd

/-- Bytes as a string. -/
abbrev bs (l : List UInt8) : ByteArray := ⟨l.toArray⟩
def blk (b : UInt8) : Bool := b == 32 || b == 9
def qt (b : UInt8) : Bool := b == 34 || b == 39
def hexN (b : UInt8) : Option Nat :=
  if 48 ≤ b.toNat ∧ b.toNat ≤ 57 then some (b.toNat - 48)
  else if 97 ≤ b.toNat ∧ b.toNat ≤ 102 then some (b.toNat - 97 + 10)
  else if 65 ≤ b.toNat ∧ b.toNat ≤ 70 then some (b.toNat - 65 + 10)
  else none
def esc1 (b : UInt8) : Option UInt8 :=
  if b = 110 then some 10 else if b = 116 then some 9 else if b = 115 then some 32
  else if b = 92 then some 92 else if b = 34 then some 34 else if b = 39 then some 39 else none
/-- Where the machine stands: between words; in one (behind an open quote, or 0); behind a backslash; behind its x; behind one digit. -/
inductive Md where
  | B
  | Q (q : UInt8)
  | E (q : UInt8)
  | X (q : UInt8)
  | Y (q : UInt8) (d : Nat)
structure St where
  md : Md
  ws : List (List UInt8)
  cur : List UInt8
def inW (q : UInt8) (ws : List (List UInt8)) (cur : List UInt8) (b : UInt8) : Option St :=
  if q = 0 then
    if blk b = true then some ⟨.B, ws ++ [cur], []⟩
    else if qt b = true then some ⟨.Q b, ws, cur⟩
    else if b = 92 then some ⟨.E 0, ws, cur⟩
    else some ⟨.Q 0, ws, cur ++ [b]⟩
  else if b = q then some ⟨.Q 0, ws, cur⟩
  else if b = 92 ∧ q = 34 then some ⟨.E 34, ws, cur⟩
  else some ⟨.Q q, ws, cur ++ [b]⟩
def step (s : St) (b : UInt8) : Option St :=
  match s with
  | ⟨.B, ws, _⟩ => if blk b = true then some ⟨.B, ws, []⟩ else inW 0 ws [] b
  | ⟨.Q q, ws, cur⟩ => inW q ws cur b
  | ⟨.E q, ws, cur⟩ => if b = 120 then some ⟨.X q, ws, cur⟩ else (esc1 b).map fun x => ⟨.Q q, ws, cur ++ [x]⟩
  | ⟨.X q, ws, cur⟩ => (hexN b).map fun d => ⟨.Y q d, ws, cur⟩
  | ⟨.Y q d, ws, cur⟩ => (hexN b).map fun e => ⟨.Q q, ws, cur ++ [UInt8.ofNat (d * 16 + e)]⟩
def run : Option St → List UInt8 → Option St
  | none, _ => none
  | some s, [] => some s
  | some s, b :: r => run (step s b) r
def fin : Option St → Option (List (List UInt8))
  | none => none
  | some ⟨.B, ws, _⟩ => some ws
  | some ⟨.Q q, ws, cur⟩ => if q = 0 then some (ws ++ [cur]) else none
  | some ⟨_, _, _⟩ => none
/-- A value's words; none: it is wrong. -/
def splitL (l : List UInt8) : Option (List (List UInt8)) := fin (run (some ⟨.B, [], []⟩) l)

theorem run_none (r : List UInt8) : run none r = none := by cases r <;> rfl
theorem run_nil (s : Option St) : run s [] = s := by cases s <;> rfl
theorem run_cons (s : St) (b : UInt8) (r : List UInt8) : run (some s) (b :: r) = run (step s b) r := rfl
theorem run_app : ∀ (a b : List UInt8) (s : Option St), run s (a ++ b) = run (run s a) b
  | [], b, s => by rw [List.nil_append, run_nil]
  | x :: a, b, none => by rw [run_none, run_none, run_none]
  | x :: a, b, some s => run_app a b (step s x)
/-- Words ahead. -/
def pre (l : List (List UInt8)) (s : St) : St := ⟨s.md, l ++ s.ws, s.cur⟩
theorem inW_pre (l : List (List UInt8)) (q : UInt8) (ws : List (List UInt8)) (cur : List UInt8) (b : UInt8) : inW q (l ++ ws) cur b = (inW q ws cur b).map (pre l) := by
  unfold inW pre
  repeat' split
  all_goals simp
theorem step_pre (l : List (List UInt8)) (s : St) (b : UInt8) : step (pre l s) b = (step s b).map (pre l) := by
  obtain ⟨md, ws, cur⟩ := s
  cases md with
  | B =>
    unfold step pre
    simp only
    split
    · simp
    · rw [inW_pre]; rfl
  | Q q => exact inW_pre l q ws cur b
  | E q =>
    unfold step pre
    simp only
    split
    · simp
    · cases esc1 b <;> simp
  | X q => unfold step pre; simp only; cases hexN b <;> simp
  | Y q d => unfold step pre; simp only; cases hexN b <;> simp
theorem run_pre (l : List (List UInt8)) : ∀ (r : List UInt8) (s : St), run (some (pre l s)) r = (run (some s) r).map (pre l)
  | [], s => rfl
  | b :: r, s => by
    rw [run_cons, run_cons, step_pre]
    cases h : step s b with
    | none => rw [Option.map_none, run_none]; rfl
    | some t => exact run_pre l r t
theorem fin_pre (l : List (List UInt8)) (s : Option St) : fin (s.map (pre l)) = (fin s).map (l ++ ·) := by
  cases s with
  | none => rfl
  | some s =>
    obtain ⟨md, ws, cur⟩ := s
    cases md with
    | Q q =>
      show (if q = 0 then some ((l ++ ws) ++ [cur]) else none) = (if q = 0 then some (ws ++ [cur]) else none).map (l ++ ·)
      split <;> simp
    | _ => rfl
/-- From between words on. -/
theorem from_b (l : List (List UInt8)) (r : List UInt8) : fin (run (some ⟨.B, l, []⟩) r) = (splitL r).map (l ++ ·) := by
  have h := run_pre l r ⟨.B, [], []⟩
  have e : pre l ⟨.B, [], []⟩ = ⟨.B, l, []⟩ := by unfold pre; rw [List.append_nil]
  rw [e] at h
  rw [h, fin_pre]
  rfl
/-- Behind a right value a blank: its words. -/
theorem blank_behind {a : List UInt8} {l : List (List UInt8)} (h : splitL a = some l) (c : UInt8) (hc : blk c = true) : run (some ⟨.B, [], []⟩) (a ++ [c]) = some ⟨.B, l, []⟩ := by
  unfold splitL at h
  rw [run_app]
  cases hr : run (some ⟨.B, [], []⟩) a with
  | none => rw [hr] at h; cases h
  | some s =>
    rw [hr] at h
    obtain ⟨md, ws, cur⟩ := s
    cases md with
    | B =>
      have h : some ws = some l := h
      cases h
      rw [run_cons, run_nil]
      unfold step; simp only; rw [if_pos hc]
    | Q q =>
      have h : (if q = 0 then some (ws ++ [cur]) else none) = some l := h
      split at h
      · cases h
        rename_i hq
        rw [run_cons, run_nil, show step ⟨.Q q, ws, cur⟩ c = inW q ws cur c from rfl]
        unfold inW; rw [if_pos hq, if_pos hc]
      · cases h
    | E q => cases h
    | X q => cases h
    | Y q d => cases h
theorem split_two {a b : List UInt8} {l m : List (List UInt8)} (h : splitL a = some l) (k : splitL b = some m) (c : UInt8) (hc : blk c = true) : splitL (a ++ c :: b) = some (l ++ m) := by
  have e : a ++ c :: b = (a ++ [c]) ++ b := by simp
  unfold splitL
  rw [e, run_app, blank_behind h c hc, from_b, k]
  rfl
theorem split_blank (c : UInt8) (hc : blk c = true) (b : List UInt8) : splitL (c :: b) = splitL b := by
  unfold splitL
  rw [run_cons]
  unfold step
  simp only
  rw [if_pos hc]
theorem split_end {a : List UInt8} {l : List (List UInt8)} (h : splitL a = some l) (c : UInt8) (hc : blk c = true) : splitL (a ++ [c]) = some l := by
  unfold splitL
  rw [blank_behind h c hc]
  rfl

/-- Join. -/
def ctl (b : UInt8) : Bool := decide (b.toNat < 32) || b == 127
def okB (b : UInt8) : Bool := !(blk b || ctl b || b == 34 || b == 39 || b == 92)
def plainB (w : List UInt8) : Bool := w.all okB && !w.isEmpty
def hexD (d : Nat) : UInt8 := if d < 10 then UInt8.ofNat (48 + d) else UInt8.ofNat (87 + d)
def quoB (b : UInt8) : List UInt8 :=
  if b = 34 ∨ b = 92 then [92, b] else if b = 10 then [92, 110] else if b = 9 then [92, 116]
  else if ctl b = true then [92, 120, hexD (b.toNat / 16), hexD (b.toNat % 16)] else [b]
def joinW (w : List UInt8) : List UInt8 := if plainB w then w else 34 :: (w.flatMap quoB ++ [34])
def joinL : List (List UInt8) → List UInt8
  | [] => []
  | [w] => joinW w
  | w :: ws => joinW w ++ 32 :: joinL ws

theorem hex_back : ∀ d : Fin 16, hexN (hexD d.val) = some d.val := by decide
theorem quo_back (ws : List (List UInt8)) (cur : List UInt8) (b : UInt8) : run (some ⟨.Q 34, ws, cur⟩) (quoB b) = some ⟨.Q 34, ws, cur ++ [b]⟩ := by
  unfold quoB
  split
  · rename_i h
    rcases h with rfl | rfl <;> rfl
  · split
    · rename_i h; subst h; rfl
    · split
      · rename_i h; subst h; rfl
      · rename_i h1 h2 h3
        split
        · rename_i h4
          have ha : b.toNat / 16 < 16 := by have := b.toNat_lt; omega
          have hb : b.toNat % 16 < 16 := Nat.mod_lt _ (by decide)
          have e1 := hex_back ⟨_, ha⟩
          have e2 := hex_back ⟨_, hb⟩
          simp only at e1 e2
          rw [run_cons]
          rw [show step ⟨.Q 34, ws, cur⟩ 92 = some ⟨.E 34, ws, cur⟩ from rfl, run_cons, show step ⟨.E 34, ws, cur⟩ 120 = some ⟨.X 34, ws, cur⟩ from rfl, run_cons]
          rw [show step ⟨.X 34, ws, cur⟩ (hexD (b.toNat / 16)) = some ⟨.Y 34 (b.toNat / 16), ws, cur⟩ by unfold step; simp only; rw [e1]; rfl, run_cons]
          rw [show step ⟨.Y 34 (b.toNat / 16), ws, cur⟩ (hexD (b.toNat % 16)) = some ⟨.Q 34, ws, cur ++ [UInt8.ofNat (b.toNat / 16 * 16 + b.toNat % 16)]⟩ by unfold step; simp only; rw [e2]; rfl, run_nil]
          rw [show b.toNat / 16 * 16 + b.toNat % 16 = b.toNat by omega]
          simp
        · rename_i h4
          rw [run_cons, run_nil]
          unfold step inW
          simp only
          rw [if_neg (by decide), if_neg (fun h => h1 (.inl h)), if_neg (fun h => h1 (.inr h.1))]
theorem quos_back (ws : List (List UInt8)) : ∀ (w cur : List UInt8), run (some ⟨.Q 34, ws, cur⟩) (w.flatMap quoB) = some ⟨.Q 34, ws, cur ++ w⟩
  | [], cur => by rw [List.append_nil]; rfl
  | b :: w, cur => by
    rw [List.flatMap_cons, run_app, quo_back, quos_back ws w (cur ++ [b])]
    simp
theorem ok_on (ws : List (List UInt8)) (cur : List UInt8) (b : UInt8) (h : okB b = true) : inW 0 ws cur b = some ⟨.Q 0, ws, cur ++ [b]⟩ := by
  unfold okB at h
  simp only [Bool.not_eq_true', Bool.or_eq_false_iff] at h
  obtain ⟨⟨⟨⟨h1, h2⟩, h3⟩, h4⟩, h5⟩ := h
  unfold inW
  rw [if_pos rfl, if_neg (by rw [h1]; decide), if_neg (by unfold qt; rw [h3, h4]; decide), if_neg (fun e => by rw [e] at h5; exact absurd h5 (by decide))]
theorem oks_on (ws : List (List UInt8)) : ∀ (w cur : List UInt8), w.all okB = true → run (some ⟨.Q 0, ws, cur⟩) w = some ⟨.Q 0, ws, cur ++ w⟩
  | [], cur, _ => by rw [List.append_nil]; rfl
  | b :: w, cur, h => by
    rw [List.all_cons, Bool.and_eq_true] at h
    rw [run_cons, show step ⟨.Q 0, ws, cur⟩ b = inW 0 ws cur b from rfl, ok_on ws cur b h.1, oks_on ws w _ h.2]
    simp
/-- A word that was told is taken as it was. -/
theorem word_back (ws : List (List UInt8)) (w : List UInt8) : run (some ⟨.B, ws, []⟩) (joinW w) = some ⟨.Q 0, ws, w⟩ := by
  unfold joinW
  split
  · rename_i h
    unfold plainB at h
    rw [Bool.and_eq_true] at h
    cases w with
    | nil => exact absurd h.2 (by decide)
    | cons b w =>
      have h1 := h.1
      rw [List.all_cons, Bool.and_eq_true] at h1
      have hb : blk b = false := by
        have := h1.1
        unfold okB at this
        simp only [Bool.not_eq_true', Bool.or_eq_false_iff] at this
        exact this.1.1.1.1
      rw [run_cons, show step ⟨.B, ws, []⟩ b = inW 0 ws [] b by unfold step; simp only; rw [hb]; rfl, ok_on ws [] b h1.1, oks_on ws w _ h1.2]
      rfl
  · rw [run_cons, show step ⟨.B, ws, []⟩ 34 = some ⟨.Q 34, ws, []⟩ from rfl, run_app, quos_back, List.nil_append]
    rfl
theorem join_on : ∀ (l ws : List (List UInt8)), fin (run (some ⟨.B, ws, []⟩) (joinL l)) = some (ws ++ l)
  | [], ws => by rw [List.append_nil]; rfl
  | [w], ws => by rw [joinL, word_back]; rfl
  | w :: v :: l, ws => by
    rw [joinL, run_app, word_back, run_cons, show step ⟨.Q 0, ws, w⟩ 32 = some ⟨.B, ws ++ [w], []⟩ from rfl, join_on (v :: l) (ws ++ [w])]
    · simp
    · simp
/-- What is joined is split as it was. -/
theorem join_back (l : List (List UInt8)) : splitL (joinL l) = some l := join_on l []
end Go.Proofs.Ytffmchbcpihjhaa.Wd
