/-
  Layer 6 (tzif): the rows of types and their letters, put.
-/
import Derived.Test.YtljkcnoicdhchaaTzI
namespace Go.Proofs.Ytljkcnoicdhchaa.Tz
open Go.RowKit

def offN (t : Ty) : Nat := (IntKind.u64.wrap t.off).toNat
def dstB (t : Ty) : Int := if t.dst then 1 else 0
/-- The rows of types, so many letters being put. -/
def typesB : List Ty → Nat → List Int
  | [], _ => []
  | t :: l, k => digs (offN t) 4 ++ ([dstB t, (k : Int) % 256] ++ typesB l (k + (t.abbr.size + 1)))
def lettersB : List Ty → List Int
  | [] => []
  | t :: l => bytesOf t.abbr ++ ([0] ++ lettersB l)
theorem lettersB_len : ∀ l : List Ty, (lettersB l).length = letters l
  | [] => rfl
  | t :: l => by
    have h1 := lettersB_len l
    have h2 : letters (t :: l) = t.abbr.size + 1 + letters l := by unfold letters; rw [List.map_cons, List.sum_cons]
    rw [h2, ← h1]
    show (bytesOf t.abbr ++ ([0] ++ lettersB l)).length = _
    rw [List.length_append, List.length_append, bytesOf_len]
    show _ + (1 + _) = _
    omega
theorem two_cells (w : World) (x y : Int) (t : TypeId) : ∀ j u, [x, y][j]? = some u → (w.alloc (.cells #[.int .u8 x, .int .u8 y] t)).cell? ((⟨w.heap.size, 0, none⟩ : Addr).add j) = some (by8 u) := by
  intro j u hu
  match j, hu with
  | 0, hu => simp at hu; subst hu; simp [Addr.add, by8]
  | 1, hu => simp at hu; subst hu; simp [Addr.add, by8]
theorem typesB_len : ∀ (l : List Ty) (k : Nat), (typesB l k).length = 6 * l.length
  | [], _ => rfl
  | t :: l, k => by
    unfold typesB
    simp [digs_len, typesB_len l]
    omega
theorem off_nat (t : Ty) : IntKind.u64.wrap t.off = (offN t : Int) := by
  unfold offN
  have : 0 ≤ IntKind.u64.wrap t.off := by rw [IntKind.wrap_u64]; omega
  omega
theorem drop_one {α : Type} {l : List α} {k : Nat} {x : α} (h : l[k]? = some x) : l.drop k = x :: l.drop (k + 1) := by
  have hl : k < l.length := by
    rcases Nat.lt_or_ge k l.length with b | b
    · exact b
    · rw [List.getElem?_eq_none b] at h; cases h
  rw [List.drop_eq_getElem_cons hl]
  rw [List.getElem?_eq_getElem hl] at h
  injection h with h; rw [h]
theorem Own.form {w : World} {base : Nat} {v : Value} {xs : List Int} (h : Own w base v xs) : ∃ A c, v = .slice A xs.length c := by
  rcases h.2 with ⟨rfl, h0⟩ | ⟨g, cap, cur, rfl, _⟩
  · exact ⟨none, 0, by rw [h0]⟩
  · exact ⟨_, _, rfl⟩
/-- Blocks that are not the row's stay. -/
theorem Grew.cell {w w' : World} {v v' : Value} (h : Grew w w' v v') (g i : Nat) {u : Value} (hg : g < w.heap.size) (hn : v.ownBlock = none ∨ v.ownBlock ≠ some g) (hc : w.cell? ⟨g, i, none⟩ = some u) : w'.cell? ⟨g, i, none⟩ = some u :=
  (World.cell?_of_block (h.gr.block g hg (by rcases hn with e | e; (rw [e]; intro c; cases c); exact Ne.symm e))).trans hc
set_option maxRecDepth 100000 in
set_option maxHeartbeats 4000000 in
theorem putTypes_any (v : Value) (l : List Ty) (B : Nat) (w : World) (h : Sl w B 3 v (l.map tyCells)) (hB : B ≤ w.heap.size) (hl : l.length ≤ 1000) (hs : ∀ t ∈ l, t.abbr.size ≤ 15) :
    Calls Try.prog 21 #[v] w fun e w' => ∃ u1 u2, e = .returned (.tuple #[u1, u2]) ∧ Own w' w.heap.size u1 (typesB l 0) ∧ Own w' w.heap.size u2 (lettersB l) ∧ Apart u1 u2 ∧ Below w.heap.size w w' := by
  have H := Lib.hid h; have HS := Lib.hid hs
  obtain ⟨A, c, rfl⟩ := h.len
  clear h hs
  go_enter Try.func21, Try.ntmps21
  go_wp2_with fail
  go_loopw [2, 3, 9] (fun a b i wr => ∃ (k : Nat) (la lb : List Int), k ≤ l.length ∧ i = .int .i64 k ∧ la ++ typesB (l.drop k) lb.length = typesB l 0 ∧ lb ++ lettersB (l.drop k) = lettersB l ∧ la.length = 6 * k ∧ lb.length ≤ 16 * k ∧ Own wr w.heap.size a la ∧ Own wr w.heap.size b lb ∧ Apart a b ∧ Below w.heap.size w wr) (fun _ _ i _ => l.length - (intOf i).toNat)
  case atStart => exact ⟨0, [], [], by omega, rfl, rfl, rfl, rfl, by simp, Own.nil _ _, Own.nil _ _, .inl rfl, Below.refl _ _⟩
  case round =>
    obtain ⟨k, la, lb, hk, rfl, hta, htb, hna, hnb, hoa, hob, hap, hb⟩ := hrel
    have HTA := Lib.hid hta; have HTB := Lib.hid htb; have HNA := Lib.hid hna; have HNB := Lib.hid hnb
    have HOA := Lib.hid hoa; have HOB := Lib.hid hob; have HAP := Lib.hid hap; have HBL := Lib.hid hb
    clear hta htb hna hnb hoa hob hap hb
    obtain ⟨Aa, ca, rfl⟩ := HOA.out.form
    obtain ⟨Ab, cb, rfl⟩ := HOB.out.form
    by_cases hlt : k < l.length
    · have hk0 : (0 : Int) ≤ (k : Int) := by omega
      have hk1 : (k : Int) < (l.length : Int) := by omega
      obtain ⟨x, hx⟩ : ∃ x, l[k]? = some x := ⟨_, List.getElem?_eq_getElem hlt⟩
      obtain ⟨g, off, c', hv, hg, c0, c1, c2⟩ := H.out.ty hx
      injection hv with e1 _ e3
      subst e1; subst e3
      have HXS := Lib.hid (HS.out x (List.mem_of_getElem? hx))
      have k0 := (HBL.out.cell (p := ⟨g, off + k * 3, none⟩) (Nat.lt_of_lt_of_le hg hB)).trans c0
      have k1 := (HBL.out.cell (p := ⟨g, off + k * 3 + 1, none⟩) (Nat.lt_of_lt_of_le hg hB)).trans c1
      have k2 := (HBL.out.cell (p := ⟨g, off + k * 3 + 2, none⟩) (Nat.lt_of_lt_of_le hg hB)).trans c2
      have HX := Lib.hid hx
      clear hx c0 c1 c2
      have hm := off_nat x
      obtain ⟨d, hd⟩ : ∃ d, x.dst = d := ⟨_, rfl⟩
      obtain ⟨W1, hW1⟩ : ∃ W1, wr.alloc (.cells #[.int .i64 x.off, .bool x.dst, .string x.abbr] 54) = W1 := ⟨_, rfl⟩
      have hsz : W1.heap.size = wr.heap.size + 1 := by rw [← hW1]; simp
      have HSZ := Lib.hid hsz
      have HBS : Hid (w.heap.size ≤ wr.heap.size) := Lib.hid HBL.out.size
      have HB1 : Hid (Below w.heap.size w W1) := Lib.hid (by rw [← hW1]; exact HBL.out.alloc HBL.out.size _)
      have HOA1 : Hid (Own W1 w.heap.size (.slice Aa la.length ca) la) := Lib.hid (by rw [← hW1]; exact HOA.out.alloc _)
      have HOB1 : Hid (Own W1 w.heap.size (.slice Ab lb.length cb) lb) := Lib.hid (by rw [← hW1]; exact HOB.out.alloc _)
      have HNE : Hid (∀ kk, (Value.slice Aa la.length ca).ownBlock = some kk → kk < wr.heap.size) := Lib.hid fun kk hkk => (HOA.out.lt kk hkk).2
      have HNF : Hid (∀ kk, (Value.slice Ab lb.length cb).ownBlock = some kk → kk < wr.heap.size) := Lib.hid fun kk hkk => (HOB.out.lt kk hkk).2
      have m0 : W1.cell? ⟨wr.heap.size, 0, none⟩ = some (.int .i64 x.off) := by rw [← hW1]; exact World.cell?_alloc_mark wr #[.int .i64 x.off, .bool x.dst, .string x.abbr] 54 (0, 0) 0
      have m1 : W1.cell? ⟨wr.heap.size, 1, none⟩ = some (.bool x.dst) := by rw [← hW1]; exact World.cell?_alloc_mark wr #[.int .i64 x.off, .bool x.dst, .string x.abbr] 54 (0, 0) 1
      have m2 : W1.cell? ⟨wr.heap.size, 2, none⟩ = some (.string x.abbr) := by rw [← hW1]; exact World.cell?_alloc_mark wr #[.int .i64 x.off, .bool x.dst, .string x.abbr] 54 (0, 0) 2
      clear hsz
      have M2 := Lib.hid m2
      have HP : Hid (Calls Try.prog 24 #[.slice Aa la.length ca, .int .i64 4, .int .u64 (offN x)] W1 fun e w' => ∃ v', e = .returned v' ∧ Own w' w.heap.size v' (la ++ digs (offN x) 4) ∧ Grew W1 w' (.slice Aa la.length ca) v') := Lib.hid (putNumber_any _ la 4 (offN x) w.heap.size W1 HOA1.out (by have := HNA.out; omega) (by omega) (by have := HBS.out; have := HSZ.out; omega))
      have HDB : Hid (dstB x = if d then 1 else 0) := Lib.hid (by unfold dstB; rw [hd])
      rw [hd] at hW1 m1 k1
      cases d with
      | true =>
        have HDV : Hid (dstB x = 1) := Lib.hid (by rw [HDB.out]; rfl)
        go_wp2_with (first
          | (go_at_call 24; refine HP.out.mono ?_; clear HP; rintro e w2 ⟨a2, rfl, hO2, hG2⟩; have HO2 := Lib.hid hO2; have HG2 := Lib.hid hG2; clear hO2 hG2 k0 k1 k2 m0 m1 m2 hW1)
          | (at_builtin; refine plain_append_bytes (.tmp 20) (.tmp 25) rfl rfl w.heap.size _ (la ++ digs (offN x) 4) [1, (lb.length : Int) % 256] ⟨w2.heap.size, 0, none⟩ 2 2 rfl rfl rfl (HO2.out.alloc _) (two_cells w2 _ _ _) (by have := HNA.out; rw [List.length_append, digs_len]; omega) (by have := HG2.out.gr.size; have := HBS.out; have := HSZ.out; simp; omega) ?_; intro a4 w4 hO4 hG4; have HO4 := Lib.hid hO4; have HG4 := Lib.hid (HG2.out.trans hG4.ahead); clear hO4 hG4; have m4 := HG4.out.cell wr.heap.size 2 (by have := HSZ.out; omega) (.inr fun e => by have := HNE.out _ e; omega) M2.out; have HOB4 := Lib.hid (HOB1.out.beside HG4.out HAP.out.symm); have HAP4 := Lib.hid (HOB1.out.apart HG4.out HAP.out.symm); have HB4 := Lib.hid (HB1.out.trans (grew_below HOA1.out HG4.out (Nat.le_refl _) HB1.out.size)))
          | (at_builtin; refine plain_append_text (.tmp 27) (.tmp 29) rfl rfl w.heap.size _ lb x.abbr rfl rfl HOB4.out (by have := HNB.out; have := HXS.out; omega) HB4.out.size ?_; intro b5 w5 hO5 hG5; have HO5 := Lib.hid hO5; have HG5 := Lib.hid hG5; have HB5 := Lib.hid (HB4.out.trans (grew_below HOB4.out hG5 (Nat.le_refl _) HB4.out.size)); clear hO5 hG5 m4)
          | (at_builtin; refine plain_append_bytes (.tmp 30) (.tmp 31) rfl rfl w.heap.size _ (lb ++ bytesOf x.abbr) [0] ⟨w5.heap.size, 0, none⟩ 1 1 rfl rfl rfl (HO5.out.alloc _) (one_cell (new_cell _ _ rfl _ _)) (by have := HNB.out; have := HXS.out; rw [List.length_append, bytesOf_len]; omega) (by have := HB5.out.size; simp; omega) ?_; intro b6 w6 hO6 hG6; have HO6 := Lib.hid hO6; have HG6 := Lib.hid (HG5.out.trans hG6.ahead); clear hO6 hG6)
          | fail)
        refine ⟨⟨k + 1, _, _, hlt, by go_num, ?_, ?_, ?_, ?_, HO4.out.beside HG6.out HAP4.out.symm, HO6.out, HO4.out.apart HG6.out HAP4.out.symm, HB4.out.trans (grew_below HOB4.out HG6.out (Nat.le_refl _) HB4.out.size)⟩, by simp [intOf]; omega⟩
        · rw [← HTA.out, drop_one HX.out]
          simp [typesB, HDV.out, bytesOf_len]
        · rw [← HTB.out, drop_one HX.out]
          simp [lettersB]
        · have := HNA.out
          simp [digs_len]; omega
        · have := HNB.out; have := HXS.out
          simp [bytesOf_len]; omega
      | false =>
        have HDV : Hid (dstB x = 0) := Lib.hid (by rw [HDB.out]; rfl)
        go_wp2_with (first
          | (go_at_call 24; refine HP.out.mono ?_; clear HP; rintro e w2 ⟨a2, rfl, hO2, hG2⟩; have HO2 := Lib.hid hO2; have HG2 := Lib.hid hG2; clear hO2 hG2 k0 k1 k2 m0 m1 m2 hW1)
          | (at_builtin; refine plain_append_bytes (.tmp 20) (.tmp 25) rfl rfl w.heap.size _ (la ++ digs (offN x) 4) [0, (lb.length : Int) % 256] ⟨w2.heap.size, 0, none⟩ 2 2 rfl rfl rfl (HO2.out.alloc _) (two_cells w2 _ _ _) (by have := HNA.out; rw [List.length_append, digs_len]; omega) (by have := HG2.out.gr.size; have := HBS.out; have := HSZ.out; simp; omega) ?_; intro a4 w4 hO4 hG4; have HO4 := Lib.hid hO4; have HG4 := Lib.hid (HG2.out.trans hG4.ahead); clear hO4 hG4; have m4 := HG4.out.cell wr.heap.size 2 (by have := HSZ.out; omega) (.inr fun e => by have := HNE.out _ e; omega) M2.out; have HOB4 := Lib.hid (HOB1.out.beside HG4.out HAP.out.symm); have HAP4 := Lib.hid (HOB1.out.apart HG4.out HAP.out.symm); have HB4 := Lib.hid (HB1.out.trans (grew_below HOA1.out HG4.out (Nat.le_refl _) HB1.out.size)))
          | (at_builtin; refine plain_append_text (.tmp 27) (.tmp 29) rfl rfl w.heap.size _ lb x.abbr rfl rfl HOB4.out (by have := HNB.out; have := HXS.out; omega) HB4.out.size ?_; intro b5 w5 hO5 hG5; have HO5 := Lib.hid hO5; have HG5 := Lib.hid hG5; have HB5 := Lib.hid (HB4.out.trans (grew_below HOB4.out hG5 (Nat.le_refl _) HB4.out.size)); clear hO5 hG5 m4)
          | (at_builtin; refine plain_append_bytes (.tmp 30) (.tmp 31) rfl rfl w.heap.size _ (lb ++ bytesOf x.abbr) [0] ⟨w5.heap.size, 0, none⟩ 1 1 rfl rfl rfl (HO5.out.alloc _) (one_cell (new_cell _ _ rfl _ _)) (by have := HNB.out; have := HXS.out; rw [List.length_append, bytesOf_len]; omega) (by have := HB5.out.size; simp; omega) ?_; intro b6 w6 hO6 hG6; have HO6 := Lib.hid hO6; have HG6 := Lib.hid (HG5.out.trans hG6.ahead); clear hO6 hG6)
          | fail)
        refine ⟨⟨k + 1, _, _, hlt, by go_num, ?_, ?_, ?_, ?_, HO4.out.beside HG6.out HAP4.out.symm, HO6.out, HO4.out.apart HG6.out HAP4.out.symm, HB4.out.trans (grew_below HOB4.out HG6.out (Nat.le_refl _) HB4.out.size)⟩, by simp [intOf]; omega⟩
        · rw [← HTA.out, drop_one HX.out]
          simp [typesB, HDV.out, bytesOf_len]
        · rw [← HTB.out, drop_one HX.out]
          simp [lettersB]
        · have := HNA.out
          simp [digs_len]; omega
        · have := HNB.out; have := HXS.out
          simp [bytesOf_len]; omega
    · have hk1 : ¬ (k : Int) < (l.length : Int) := by omega
      have htk : l.drop k = [] := List.drop_eq_nil_of_le (by omega)
      have h1 := HTA.out; have h2 := HTB.out
      rw [htk] at h1 h2
      have H1 : Hid (la = typesB l 0) := Lib.hid (by rw [← h1]; simp [typesB])
      have H2 : Hid (lb = lettersB l) := Lib.hid (by rw [← h2]; simp [lettersB])
      clear h1 h2
      go_wp2_with fail
      go_ret2
      exact ⟨_, _, rfl, H1.out ▸ HOA.out, H2.out ▸ HOB.out, HAP.out, HBL.out⟩
end Go.Proofs.Ytljkcnoicdhchaa.Tz
