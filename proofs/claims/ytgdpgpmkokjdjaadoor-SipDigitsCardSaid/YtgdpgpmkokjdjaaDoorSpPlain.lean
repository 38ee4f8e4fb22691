/-
  Layer 4's words, with no program in them: four numbers of 64 bits that rounds stir, bytes as a number, the hash of a row of bytes; and what is said of memory: a block that is known whole, a row of bytes that a slice reads.
-/
import Derived.WalkKit
import Derived.Below
import Derived.Laws.OwnMore
import Derived.Deep.Draws
import Derived.Deep.OwnRows
import Derived.OwnWalk
import Derived.Maps.AppendAt
import Derived.Laws.Rows
namespace Go.Proofs.YtgdpgpmkokjdjaaDoor.Sp
open Go.RowKit

/-! Memory. -/
/-- Behind w0 block g alone has turned, of what there was; it holds cs. -/
structure Ob (w0 : World) (g : Nat) (t : TypeId) (cs : List Value) (w : World) : Prop where
  holds : w.heap[g]? = some (.cells cs.toArray t (0, 0))
  fr : w0.grownBy w (some g)
/-- Block g holds cs. -/
def Hold (w : World) (g : Nat) (t : TypeId) (cs : List Value) : Prop := w.heap[g]? = some (.cells cs.toArray t (0, 0))

section
variable {w0 w w' : World} {g : Nat} {t : TypeId} {cs : List Value}
theorem Hold.ob (h : Hold w g t cs) : Ob w g t cs w := ⟨h, World.grownBy.refl _ _⟩
theorem Ob.hold (h : Ob w0 g t cs w) : Hold w g t cs := h.holds
theorem Hold.cell (h : Hold w g t cs) (i : Nat) : w.cell? ⟨g, i, none⟩ = cs[i]? := by
  unfold Hold at h; simp [World.cell?, h]
theorem Hold.frozen (h : Hold w g t cs) (i : Nat) : w.frozen? ⟨g, i, none⟩ = false := by
  unfold Hold at h; simp [World.frozen?, h]
theorem Hold.lt (h : Hold w g t cs) : g < w.heap.size := by
  rcases Nat.lt_or_ge g w.heap.size with hl | hl
  · exact hl
  · unfold Hold at h; rw [Array.getElem?_eq_none hl] at h; cases h
theorem Hold.keep (h : Hold w g t cs) (e : w'.heap[g]? = w.heap[g]?) : Hold w' g t cs := e.trans h
theorem Hold.below {B : Nat} (h : Hold w g t cs) (hb : Below B w w') (hg : g < B) : Hold w' g t cs := h.keep (hb.block g hg)
theorem Hold.new (w : World) (t : TypeId) (cs : List Value) : Hold (w.alloc (.cells cs.toArray t)) w.heap.size t cs := heap_alloc_new w _
theorem Hold.alloc (h : Hold w g t cs) (o : Obj) : Hold (w.alloc o) g t cs := h.keep (Below.heap_alloc w o g h.lt)
theorem Hold.drewN (h : Hold w g t cs) (n : Nat) : Hold (w.drewN n) g t cs := h
theorem Hold.set (h : Hold w g t cs) (i : Nat) (u : Value) : Hold (w.setCell ⟨g, i, none⟩ u) g t (cs.set i u) := by
  unfold Hold at h ⊢
  simp [World.setCell, Array.getElem?_modify, h]
theorem Hold.far (h : Hold w g t cs) {p : Addr} (hp : g ≠ p.block) (u : Value) : Hold (w.setCell p u) g t cs := h.keep (Below.heap_setCell w p u g hp)
theorem gb_drewN {row : Option Nat} (h : w0.grownBy w row) (n : Nat) : w0.grownBy (w.drewN n) row := ⟨h.os, h.tape, h.output, h.size, h.block⟩
theorem gb_set (h : w0.grownBy w (some g)) (i : Nat) (u : Value) : w0.grownBy (w.setCell ⟨g, i, none⟩ u) (some g) :=
  ⟨h.os, h.tape, h.output, by simpa [World.setCell] using h.size, fun k hk hne => (Below.heap_setCell w ⟨g, i, none⟩ u k (by rintro rfl; exact hne rfl)).trans (h.block k hk hne)⟩
theorem gb_alloc {row : Option Nat} (h : w0.grownBy w row) (o : Obj) : w0.grownBy (w.alloc o) row := h.trans (World.grownBy_alloc w o row)
theorem gb_below {row : Option Nat} (h : w0.grownBy w row) (hb : Below w.heap.size w w') : w0.grownBy w' row :=
  ⟨hb.os.trans h.os, hb.tape.trans h.tape, hb.output.trans h.output, Nat.le_trans h.size hb.size, fun k hk hne => (hb.block k (Nat.lt_of_lt_of_le hk h.size)).trans (h.block k hk hne)⟩
/-- What turned is new. -/
theorem gb_new {B : Nat} {w1 : World} (h : Below B w w1) (hg : w1.grownBy w' (some g)) (hB : B ≤ w1.heap.size) (hb : B ≤ g) : Below B w w' :=
  ⟨hg.os.trans h.os, hg.tape.trans h.tape, hg.output.trans h.output, Nat.le_trans h.size hg.size, fun k hk => (hg.block k (Nat.lt_of_lt_of_le hk hB) (by rintro ⟨⟩; omega)).trans (h.block k hk)⟩
theorem Ob.drewN (h : Ob w0 g t cs w) (n : Nat) : Ob w0 g t cs (w.drewN n) := ⟨h.holds, gb_drewN h.fr n⟩
theorem Ob.drew (h : Ob w0 g t cs w) : Ob w0 g t cs w.drew := ⟨h.holds, ⟨h.fr.os, h.fr.tape, h.fr.output, h.fr.size, h.fr.block⟩⟩
theorem Ob.set (h : Ob w0 g t cs w) (i : Nat) (u : Value) : Ob w0 g t (cs.set i u) (w.setCell ⟨g, i, none⟩ u) := ⟨h.hold.set i u, gb_set h.fr i u⟩
theorem Ob.trans {cs' : List Value} (h : Ob w0 g t cs w) (k : Ob w g t cs' w') : Ob w0 g t cs' w' := ⟨k.holds, h.fr.trans k.fr⟩
theorem Ob.cast {cs' : List Value} (h : Ob w0 g t cs w) (e : cs = cs') : Ob w0 g t cs' w := e ▸ h
theorem Ob.below (h : Ob w0 g t cs w) (hb : Below w.heap.size w w') : Ob w0 g t cs w' := ⟨h.hold.below hb h.hold.lt, gb_below h.fr hb⟩
end

theorem bl_drewN {B : Nat} {a w : World} (h : Below B a w) (n : Nat) : Below B a (w.drewN n) := ⟨h.os, h.tape, h.output, h.size, h.block⟩
/-- A byte, a word. -/
abbrev by8 (z : Int) : Value := .int .u8 z
/-- The slice's first n cells are these bytes, in a block below B. -/
def Row (w : World) (B : Nat) (A : Option Addr) (n : Nat) (xs : List Int) : Prop :=
  xs.length = n ∧ ∀ j z, xs[j]? = some z → ∃ ad, A = some ad ∧ ad.block < B ∧ w.cell? (ad.add j) = some (by8 z)

theorem block_add (a : Addr) (n : Nat) : (a.add n).block = a.block := by unfold Addr.add; split <;> rfl
theorem add_add (a : Addr) (i j : Nat) : (a.add i).add j = a.add (i + j) := by
  unfold Addr.add
  by_cases hi : i = 0 <;> by_cases hj : j = 0 <;> simp [hi, hj, Nat.add_assoc]
theorem add_lit (g o j : Nat) : (⟨g, o, none⟩ : Addr).add j = ⟨g, o + j, none⟩ := by
  unfold Addr.add
  by_cases hj : j = 0 <;> simp [hj]

section
variable {w w' : World} {B n : Nat} {A : Option Addr} {xs : List Int}
theorem Row.len (h : Row w B A n xs) : xs.length = n := h.1
theorem Row.nil : Row w B A 0 [] := ⟨rfl, fun j z h => by simp at h⟩
theorem Row.get (h : Row w B A n xs) {k : Nat} (hk : k < n) : ∃ ad, A = some ad ∧ ad.block < B ∧ w.cell? (ad.add k) = some (by8 (xs.getD k 0)) := by
  have hl : k < xs.length := by rw [h.1]; exact hk
  obtain ⟨ad, e, hb, hc⟩ := h.2 k xs[k] (List.getElem?_eq_getElem hl)
  exact ⟨ad, e, hb, by rw [hc]; simp [List.getD, List.getElem?_eq_getElem hl]⟩
theorem Row.keep (h : Row w B A n xs) (hk : ∀ p : Addr, p.block < B → w'.cell? p = w.cell? p) : Row w' B A n xs :=
  ⟨h.1, fun j z hz => by obtain ⟨ad, e, hb, hc⟩ := h.2 j z hz; exact ⟨ad, e, hb, (hk _ (by rw [block_add]; exact hb)).trans hc⟩⟩
theorem Row.below (h : Row w B A n xs) (hb : Below B w w') : Row w' B A n xs := h.keep fun _ hp => hb.cell hp
theorem Row.below' {C : Nat} (h : Row w B A n xs) (hb : Below C w w') (hC : B ≤ C) : Row w' B A n xs := h.keep fun _ hp => hb.cell (Nat.lt_of_lt_of_le hp hC)
theorem Row.drewN (h : Row w B A n xs) (k : Nat) : Row (w.drewN k) B A n xs := h
theorem Row.alloc (h : Row w B A n xs) (hB : B ≤ w.heap.size) (o : Obj) : Row (w.alloc o) B A n xs := h.keep fun p hp => World.cell?_alloc_lt w o p (by omega)
theorem Row.grown (h : Row w B A n xs) {g : Nat} (hg : w.grownBy w' (some g)) (hB : B ≤ w.heap.size) (hb : B ≤ g) : Row w' B A n xs :=
  h.keep fun p hp => World.cell?_of_block (hg.block p.block (by omega) (by rintro ⟨⟩; omega))
theorem Row.more {C : Nat} (h : Row w B A n xs) (hC : B ≤ C) : Row w C A n xs :=
  ⟨h.1, fun j z hz => by obtain ⟨ad, e, hb, hc⟩ := h.2 j z hz; exact ⟨ad, e, by omega, hc⟩⟩
theorem Row.take (h : Row w B A n xs) {k : Nat} (hk : k ≤ n) : Row w B A k (xs.take k) :=
  ⟨by rw [List.length_take, h.1]; omega, fun j z hz => h.2 j z (by
    rw [List.getElem?_take] at hz; split at hz
    · exact hz
    · cases hz)⟩
theorem Row.cut (h : Row w B A n xs) {k cap : Nat} (hc : n ≤ cap) (hk : k ≤ n) : Row w B (if cap = k then A else A.map (·.add k)) (n - k) (xs.drop k) := by
  refine ⟨by rw [List.length_drop, h.1], fun j z hz => ?_⟩
  have hz' : xs[k + j]? = some z := by rw [← hz, List.getElem?_drop]
  have hl : k + j < xs.length := by
    rcases Nat.lt_or_ge (k + j) xs.length with a | a
    · exact a
    · rw [List.getElem?_eq_none a] at hz'; cases hz'
  obtain ⟨ad, rfl, hb, hcell⟩ := h.2 _ _ hz'
  rw [if_neg (by have := h.1; omega)]
  exact ⟨ad.add k, rfl, by rw [block_add]; exact hb, by rw [add_add]; exact hcell⟩
/-- Bytes in a block that is known. -/
theorem Row.of_hold {g o : Nat} {t : TypeId} {cs : List Value} (h : Hold w g t cs) (hB : g < B) (hl : xs.length = n) (hx : ∀ j z, xs[j]? = some z → cs[o + j]? = some (by8 z)) : Row w B (some ⟨g, o, none⟩) n xs :=
  ⟨hl, fun j z hz => ⟨_, rfl, hB, by rw [add_lit, h.cell]; exact hx j z hz⟩⟩
end

/-! Numbers. -/
structure Q where
  (a b c d : Int)
abbrev wd (z : Int) : Value := .int .u64 z
def Q.cells (q : Q) : List Value := [wd q.a, wd q.b, wd q.c, wd q.d]
def xr (a b : Int) : Int := bits .xor .u64 a b
def ad (a b : Int) : Int := IntKind.u64.wrap (a + b)
def rot13 (x : Int) : Int := bits .or .u64 (IntKind.u64.wrap (x * 8192)) (x / 2251799813685248)
def rot16 (x : Int) : Int := bits .or .u64 (IntKind.u64.wrap (x * 65536)) (x / 281474976710656)
def rot17 (x : Int) : Int := bits .or .u64 (IntKind.u64.wrap (x * 131072)) (x / 140737488355328)
def rot21 (x : Int) : Int := bits .or .u64 (IntKind.u64.wrap (x * 2097152)) (x / 8796093022208)
def rot32 (x : Int) : Int := bits .or .u64 (IntKind.u64.wrap (x * 4294967296)) (x / 4294967296)
/-- A round. -/
def rnd (q : Q) : Q :=
  let a1 := ad q.a q.b
  let b1 := xr (rot13 q.b) a1
  let a2 := rot32 a1
  let c1 := ad q.c q.d
  let d1 := xr (rot16 q.d) c1
  let a3 := ad a2 d1
  let d2 := xr (rot21 d1) a3
  let c2 := ad c1 b1
  let b2 := xr (rot17 b1) c2
  ⟨a3, b2, rot32 c2, d2⟩
def rnds : Nat → Q → Q
  | 0, q => q
  | n + 1, q => rnd (rnds n q)
/-- Eight bytes more. -/
def eat (q : Q) (m : Int) : Q := let r := rnds 2 ⟨q.a, q.b, q.c, xr q.d m⟩; ⟨xr r.a m, r.b, r.c, r.d⟩
/-- Bytes as a number, the first one the lowest. -/
def num : List Int → Int
  | [] => 0
  | b :: l => b + 256 * num l
/-- Where it begins. -/
def init (k : List Int) : Q :=
  ⟨xr (num (k.take 8)) 8317987319222330741, xr (num (k.drop 8)) 7237128888997146477, xr (num (k.take 8)) 7816392313619706465, xr (num (k.drop 8)) 8387220255154660723⟩
/-- Behind n blocks. -/
def feed (q : Q) (bs : List Int) : Nat → Q
  | 0 => q
  | n + 1 => eat (feed q bs n) (num ((bs.drop (8 * n)).take 8))
/-- The last block. -/
def last (bs : List Int) : List Int := (bs.drop (8 * (bs.length / 8)) ++ List.replicate 8 0).take 7 ++ [((bs.length % 256 : Nat) : Int)]
def fin (q : Q) (m : Int) : Int :=
  let r := eat q m
  let s := rnds 4 ⟨r.a, r.b, xr r.c 255, r.d⟩
  xr (xr (xr s.a s.b) s.c) s.d
def hash (k bs : List Int) : Int := fin (feed (init k) bs (bs.length / 8)) (num (last bs))

theorem feed_congr (q : Q) {bs cs : List Int} : ∀ {n : Nat}, bs.take (8 * n) = cs.take (8 * n) → feed q bs n = feed q cs n
  | 0, _ => rfl
  | n + 1, h => by
    have h1 : bs.take (8 * n) = cs.take (8 * n) := by
      have := congrArg (List.take (8 * n)) h
      simpa [List.take_take, show min (8 * n) (8 * (n + 1)) = 8 * n by omega] using this
    have h2 : (bs.drop (8 * n)).take 8 = (cs.drop (8 * n)).take 8 := by
      rw [List.take_drop, List.take_drop, show 8 * n + 8 = 8 * (n + 1) by omega, h]
    show eat (feed q bs n) _ = eat (feed q cs n) _
    rw [feed_congr q h1, h2]
end Go.Proofs.YtgdpgpmkokjdjaaDoor.Sp
