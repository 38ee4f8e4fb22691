/-
  Layer 5: alike: two file systems that tell the same of a directory.
-/
import Derived.Test.YtdbcjiapbehacaaGreatDoorVpX
namespace Go.Proofs.YtdbcjiapbehacaaGreatDoor.Vp
open Go.RowKit Go.Maps
open Go.Proofs.YtdbcjiapbehacaaGreatDoor.Vf (Hold OwnR Owns Fs FineD Moves Reads Reads.at_ Reads.len Reads.keep bl_drewN)

section
variable {w W : World} {P p pr po : Nat} {s so : Pf} {l lo : Loc} {fs : Fs}
theorem listT1 {T : Nat} (h : Trio w P p s l pr fs po so lo W) (hf : Fine s T) (hT : T ≤ 100000) (hs : tickS s = s) (path : ByteArray) (ho : okS path) :
    Calls Tryz.prog 26 #[.pointer (some ⟨p, 0, none⟩), .string path] W fun e W' => (∃ A c, e = .returned (.tuple #[.slice A (listX s path).length c, .int .i64 (findDirRes s path)]) ∧ Reads W' 9 1 (.slice A (listX s path).length c) (strs (listX s path))) ∧ (∃ l', Trio w P p s l' pr fs po so lo W') ∧ Stay W W' :=
  (list_x h.duo.one.f hf hT path ho).mono fun _ _ ⟨he, ha⟩ => by rw [hs] at ha; exact ⟨he, h.onF ha, stayF h.duo.one.f ha⟩
theorem listT2 {T : Nat} (h : Trio w P p s l pr fs po so lo W) (hf : Fine so T) (hT : T ≤ 100000) (hs : tickS so = so) (path : ByteArray) (ho : okS path) :
    Calls Tryz.prog 26 #[.pointer (some ⟨po, 0, none⟩), .string path] W fun e W' => (∃ A c, e = .returned (.tuple #[.slice A (listX so path).length c, .int .i64 (findDirRes so path)]) ∧ Reads W' 9 1 (.slice A (listX so path).length c) (strs (listX so path))) ∧ (∃ lo', Trio w P p s l pr fs po so lo' W') ∧ Stay W W' :=
  (list_x h.old hf hT path ho).mono fun _ _ ⟨he, ha⟩ => by rw [hs] at ha; exact ⟨he, h.onOld ha, stayF h.old ha⟩
theorem readT1 {T : Nat} (h : Trio w P p s l pr fs po so lo W) (hf : Fine s T) (hs : tickS s = s) (path : ByteArray) (ho : okS path) :
    Calls Tryz.prog 20 #[.pointer (some ⟨p, 0, none⟩), .string path] W fun e W' => (∃ A c, e = .returned (.tuple #[.slice A (readX s path).size c, .int .i64 (findRes s path).2]) ∧ BytesAt W' (.slice A (readX s path).size c) (readX s path)) ∧ (∃ l', Trio w P p s l' pr fs po so lo W') ∧ Stay W W' :=
  (read_x h.duo.one.f hf path ho).mono fun _ _ ⟨he, ha⟩ => by rw [hs] at ha; exact ⟨he, h.onF ha, stayF h.duo.one.f ha⟩
theorem readT2 {T : Nat} (h : Trio w P p s l pr fs po so lo W) (hf : Fine so T) (hs : tickS so = so) (path : ByteArray) (ho : okS path) :
    Calls Tryz.prog 20 #[.pointer (some ⟨po, 0, none⟩), .string path] W fun e W' => (∃ A c, e = .returned (.tuple #[.slice A (readX so path).size c, .int .i64 (findRes so path).2]) ∧ BytesAt W' (.slice A (readX so path).size c) (readX so path)) ∧ (∃ lo', Trio w P p s l pr fs po so lo' W') ∧ Stay W W' :=
  (read_x h.old hf path ho).mono fun _ _ ⟨he, ha⟩ => by rw [hs] at ha; exact ⟨he, h.onOld ha, stayF h.old ha⟩
theorem sameL_self (X : List ByteArray) : sameL X X = true := by unfold sameL; simp
set_option maxRecDepth 100000 in
set_option maxHeartbeats 4000000 in
theorem alike_any {T : Nat} {d : ByteArray} (h : Trio w P p s l pr fs po so lo W) (hf : Fine s T) (hg : Fine so T) (hT : T ≤ 100000) (hs : tickS s = s) (hso : tickS so = so) (hd : d.size ≤ 2) (hL : Like s so d) :
    Calls Tryz.prog 28 #[.pointer (some ⟨p, 0, none⟩), .pointer (some ⟨po, 0, none⟩), .string d] W fun e W' => e = .returned (.bool true) ∧ ∃ l' lo', Trio w P p s l' pr fs po so lo' W' := by
  have hod : okS d := by unfold okS; omega
  have hX : (listX s d).length ≤ 1000000 := by have := listX_len s d; have := hf.fits.names; omega
  obtain ⟨R, hR⟩ : ∃ R, findDirRes s d = R := ⟨_, rfl⟩
  obtain ⟨X, hXe⟩ : ∃ X, listX s d = X := ⟨_, rfl⟩
  have hR2 := hL.res
  have hX2 := hL.row
  have hE := hL.each
  have HL1 : Hid (∀ V l lo, Trio w P p s l pr fs po so lo V → Calls Tryz.prog 26 #[.pointer (some ⟨p, 0, none⟩), .string d] V fun e V' => (∃ A c, e = .returned (.tuple #[.slice A X.length c, .int .i64 R]) ∧ Reads V' 9 1 (.slice A X.length c) (strs X)) ∧ (∃ l', Trio w P p s l' pr fs po so lo V') ∧ Stay V V') := Lib.hid fun V l lo h => by have := listT1 h hf hT hs d hod; rwa [hR, hXe] at this
  rw [hR] at hR2
  rw [hXe] at hX2 hE hX
  have HL2 : Hid (∀ V l lo, Trio w P p s l pr fs po so lo V → Calls Tryz.prog 26 #[.pointer (some ⟨po, 0, none⟩), .string d] V fun e V' => (∃ A c, e = .returned (.tuple #[.slice A X.length c, .int .i64 R]) ∧ Reads V' 9 1 (.slice A X.length c) (strs X)) ∧ (∃ lo', Trio w P p s l pr fs po so lo' V') ∧ Stay V V') := Lib.hid fun V l lo h => by have := listT2 h hg hT hso d hod; rwa [← hR2, ← hX2] at this
  have HE := Lib.hid hE
  have HF := Lib.hid hf; have HG := Lib.hid hg; have HS := Lib.hid hs; have HSO := Lib.hid hso
  have T0 := Lib.hid h
  have eR : (R != R) = false := by simp
  have HX := Lib.hid hX
  clear h hf hg hs hso hL hR hXe hR2 hX2 hE hod
  go_enter Tryz.func28, Tryz.ntmps28
  go_wp2_with (first
    | (go_at_call 26; refine (HL1.out _ _ _ T0.out).mono ?_; clear HL1; rintro e v1 ⟨⟨A1, c1, rfl, hr1⟩, ⟨l1, t1⟩, st1⟩; have T1 := Lib.hid t1; have R1 := Lib.hid hr1; clear t1 hr1 st1)
    | (go_at_call 26; refine (HL2.out _ _ _ T1.out).mono ?_; clear HL2; rintro e v2 ⟨⟨A2, c2, rfl, hr2⟩, ⟨lo2, t2⟩, st2⟩; have T2 := Lib.hid t2; have R2 := Lib.hid hr2; have R3 := Lib.hid (R1.out.keep (st2.same (by decide))); clear t2 hr2 st2)
    | (go_at_call 38; refine (same_any _ _ X X _ R3.out R2.out HX.out).mono ?_; rintro e w4 ⟨rfl, m, rfl⟩; rw [sameL_self])
    | fail)
  go_loopw [11] (fun i wr => ∃ (k : Nat) (l' lo' : Loc), k ≤ X.length ∧ i = .int .i64 k ∧ Trio w P p s l' pr fs po so lo' wr ∧ Reads wr 9 1 (.slice A1 X.length c1) (strs X)) (fun i _ => X.length - (intOf i).toNat)
  case atStart => exact ⟨0, _, _, Nat.zero_le _, rfl, T2.out.keep (bl_drewN (Below.refl _ _) _), R3.out.keep ((Stay.below (bl_drewN (Below.refl _ _) _)).same (by decide))⟩
  case round =>
    obtain ⟨k, l', lo', hkn, rfl, ht, hrd⟩ := hrel
    have TT := Lib.hid ht; have RD := Lib.hid hrd
    clear ht hrd T0 T1 T2 R1 R2 R3
    by_cases hlt : k < X.length
    · obtain ⟨n, hn⟩ : ∃ n, X[k]? = some n := ⟨_, List.getElem?_eq_getElem hlt⟩
      obtain ⟨he1, he2, hn64⟩ := HE.out n (List.mem_of_getElem? hn)
      obtain ⟨ga, cc, hA, hc1, hcA⟩ := RD.out.at_ (k := k) (cs := [.string n]) (by unfold strs; rw [List.getElem?_map, hn]; rfl)
      rw [show (strs X).length = X.length from List.length_map _] at hA
      injection hA with e1 _ e3
      subst e1; subst e3
      have c0 : wr.cell? ⟨ga, k, none⟩ = some (.string n) := by have := hcA 0 _ rfl; simpa using this
      have hk0 : (0 : Int) ≤ (k : Int) := by omega
      have hk1 : (k : Int) < (X.length : Int) := by omega
      have hqs := join_size hd hn64
      have hoq : okS (joinP d n) := by unfold okS; omega
      obtain ⟨E, hE2⟩ : ∃ E, (findRes s (joinP d n)).2 = E := ⟨_, rfl⟩
      obtain ⟨Y, hY⟩ : ∃ Y, readX s (joinP d n) = Y := ⟨_, rfl⟩
      rw [hE2] at he1
      rw [hY] at he2
      have HRa : Hid (∀ V l lo, Trio w P p s l pr fs po so lo V → Calls Tryz.prog 20 #[.pointer (some ⟨p, 0, none⟩), .string (joinP d n)] V fun e V' => (∃ A c, e = .returned (.tuple #[.slice A Y.size c, .int .i64 E]) ∧ BytesAt V' (.slice A Y.size c) Y) ∧ (∃ l', Trio w P p s l' pr fs po so lo V') ∧ Stay V V') := Lib.hid fun V l lo h => by have := readT1 h HF.out HS.out (joinP d n) hoq; rwa [hE2, hY] at this
      have HRb : Hid (∀ V l lo, Trio w P p s l pr fs po so lo V → Calls Tryz.prog 20 #[.pointer (some ⟨po, 0, none⟩), .string (joinP d n)] V fun e V' => (∃ A c, e = .returned (.tuple #[.slice A Y.size c, .int .i64 E]) ∧ BytesAt V' (.slice A Y.size c) Y) ∧ (∃ lo', Trio w P p s l pr fs po so lo' V') ∧ Stay V V') := Lib.hid fun V l lo h => by have := readT2 h HG.out HSO.out (joinP d n) hoq; rwa [← he1, ← he2] at this
      have eE : (E != E) = false := by simp
      have eY : (Y.toList == Y.toList) = true := by simp
      have z1 : d.size + 1 ≤ 9223372036854775807 := by omega
      have z2 : d.size + (⟨#[47]⟩ : ByteArray).size ≤ 9223372036854775807 := by show d.size + 1 ≤ _; omega
      have z3 : (d ++ ⟨#[47]⟩).size + n.size ≤ 9223372036854775807 := by rw [ByteArray.size_append]; show d.size + 1 + n.size ≤ _; omega
      have z4 : d.size + 1 + n.size ≤ 9223372036854775807 := by omega
      have z5 : 1 + n.size ≤ 9223372036854775807 := by omega
      have z6 : (⟨#[47]⟩ : ByteArray).size + n.size ≤ 9223372036854775807 := by show 1 + n.size ≤ _; omega
      clear hE2 hY hqs hoq hcA hc1 he1 he2 hn
      cases hroot : (d.toList == [47])
      · have hq : joinP d n = (d ++ ⟨#[47]⟩) ++ n := by unfold joinP; rw [if_neg (by rw [hroot]; simp)]; rfl
        rw [hq] at HRa HRb
        clear hq
        go_wp2_with (first
          | (go_at_call 20; refine (HRa.out _ _ _ TT.out).mono ?_; clear HRa; rintro e v1 ⟨⟨B1, d1, rfl, hb1⟩, ⟨l1, t1⟩, st1⟩; have T1 := Lib.hid t1; have RD1 := Lib.hid (RD.out.keep (st1.same (by decide))); have Y1 := Lib.hid hb1; clear t1 hb1 st1)
          | (go_at_call 20; refine (HRb.out _ _ _ T1.out).mono ?_; clear HRb; rintro e v2 ⟨⟨B2, d2, rfl, hb2⟩, ⟨lo2, t2⟩, st2⟩; have T2 := Lib.hid t2; have RD2 := Lib.hid (RD1.out.keep (st2.same (by decide))); have q2 := hb2.text; have q1 := (Y1.out.stay st2).text; clear t2 hb2 st2)
          | fail)
        exact ⟨⟨k + 1, l1, lo2, hlt, by go_num, T2.out, RD2.out⟩, by simp [intOf]; omega⟩
      · have hq : joinP d n = ⟨#[47]⟩ ++ n := by unfold joinP; rw [if_pos hroot]; rfl
        rw [hq] at HRa HRb
        clear hq
        go_wp2_with (first
          | (go_at_call 20; refine (HRa.out _ _ _ TT.out).mono ?_; clear HRa; rintro e v1 ⟨⟨B1, d1, rfl, hb1⟩, ⟨l1, t1⟩, st1⟩; have T1 := Lib.hid t1; have RD1 := Lib.hid (RD.out.keep (st1.same (by decide))); have Y1 := Lib.hid hb1; clear t1 hb1 st1)
          | (go_at_call 20; refine (HRb.out _ _ _ T1.out).mono ?_; clear HRb; rintro e v2 ⟨⟨B2, d2, rfl, hb2⟩, ⟨lo2, t2⟩, st2⟩; have T2 := Lib.hid t2; have RD2 := Lib.hid (RD1.out.keep (st2.same (by decide))); have q2 := hb2.text; have q1 := (Y1.out.stay st2).text; clear t2 hb2 st2)
          | fail)
        exact ⟨⟨k + 1, l1, lo2, hlt, by go_num, T2.out, RD2.out⟩, by simp [intOf]; omega⟩
    · go_wp2_with fail
      go_ret
      exact ⟨rfl, _, _, TT.out⟩
end
end Go.Proofs.YtdbcjiapbehacaaGreatDoor.Vp
