/-
  Layer 5: the pair's do: going on with a copy.
-/
import Derived.Test.YtdbcjiapbehacaaGreatDoorVpO
import Derived.Lib.SlBytesConst
namespace Go.Proofs.YtdbcjiapbehacaaGreatDoor.Vp
open Go.RowKit Go.Maps
open Go.Proofs.YtdbcjiapbehacaaGreatDoor.Vf (Hold OwnR Owns Fs FineD Moves ret_int)

section
variable {w W V : World} {P p pr po q gd cd : Nat} {s so : Pf} {l lo : Loc} {fs : Fs} {vf : Value} {dv : List Vf.Dv}
theorem Trio.keep (h : Trio w P p s l pr fs po so lo W) (hb : Below W.heap.size W V) : Trio w P p s l pr fs po so lo V := ⟨h.duo.keep hb, h.old.below hb, h.oldn, h.off⟩
theorem trio_new {l' : Loc} {p' : Nat} (h : Duo w P p s l pr fs W) (hA : At V p' s l') (hb : Below W.heap.size W V) (hn : ∀ b, Foot p' s l' b → W.heap.size ≤ b) : Trio w P p' s l' pr fs p s l (V.setCell ⟨P, 0, none⟩ (.pointer (some ⟨p', 0, none⟩))) := by
  obtain ⟨vf, gd, cd, dv, hO, hd⟩ := h.doc
  have hP := h.box.lt
  have hbox := h.box.keep (hb.block P hP)
  have hsame : ∀ g, g ≠ P → (V.setCell ⟨P, 0, none⟩ (.pointer (some ⟨p', 0, none⟩))).heap[g]? = V.heap[g]? := fun g hg => Below.heap_setCell V ⟨P, 0, none⟩ _ g hg
  have hW := h.one.below.size
  refine ⟨⟨hbox.set 0 _, ⟨hA.keep fun g hg => hsame g (by have := hn g hg; omega), fun b hb' => Nat.le_trans hW (hn b hb'), (h.one.below.trans (hb.mono hW)).setCell (p := ⟨P, 0, none⟩) h.pn _⟩, ⟨vf, gd, cd, dv, owns_doc (hO.below hb) fun g hg => hsame g (fun e => box_not_doc hbox (e ▸ hg)), hd⟩, h.pn⟩, (h.one.f.below hb).keep fun g hg => hsame g (fun e => box_off (h.one.f.below hb) hbox hg e.symm), h.one.fn, fun b hb' ho => ?_⟩
  have h1 := h.one.f.lt ho
  have h2 := hn b hb'
  omega
theorem trio_doc (h : Trio w P p s l pr fs po so lo W) (hO : Owns V q fs vf gd cd dv) (hb : Below W.heap.size W V) (hn : ∀ g, Vf.Foot q gd vf dv g → W.heap.size ≤ g) : Trio w P p s l q fs po so lo (V.setCell ⟨P, 1, none⟩ (.pointer (some ⟨q, 0, none⟩))) := by
  have hP := h.duo.box.lt
  have hbox := h.duo.box.keep (hb.block P hP)
  have hsame : ∀ g, g ≠ P → (V.setCell ⟨P, 1, none⟩ (.pointer (some ⟨q, 0, none⟩))).heap[g]? = V.heap[g]? := fun g hg => Below.heap_setCell V ⟨P, 1, none⟩ _ g hg
  have hW := h.duo.one.below.size
  exact ⟨⟨hbox.set 1 _, ⟨(h.duo.one.f.below hb).keep fun g hg => hsame g (fun e => box_off (h.duo.one.f.below hb) hbox hg e.symm), h.duo.one.fn, (h.duo.one.below.trans (hb.mono hW)).setCell (p := ⟨P, 1, none⟩) h.duo.pn _⟩, ⟨vf, gd, cd, dv, owns_doc hO fun g hg => hsame g (fun e => box_not_doc hbox (e ▸ hg)), fun g hg => Nat.le_trans hW (hn g hg)⟩, h.duo.pn⟩, (h.old.below hb).keep fun g hg => hsame g (fun e => box_off (h.old.below hb) hbox hg e.symm), h.oldn, h.off⟩
/-- The pair's block turns: nothing of other kinds. -/
theorem stay_box {v u : Value} {k : Nat} (h : Hold W P 30 [v, u]) (x : Value) : Stay W (W.setCell ⟨P, k, none⟩ x) := fun g cur t fr hg ht => Below.heap_setCell W ⟨P, k, none⟩ x g (fun e => by
  subst e
  rw [kind_alien h (by decide) hg] at ht; cases ht)
theorem lit_bytes2 (W : World) (cs : List UInt8) (n : Nat) (fr : Nat × Nat) (hn : cs.length = n) : BytesAt (W.alloc (.cells (cs.map fun b => Value.int .u8 b.toNat).toArray 5 fr)) (.slice (some ⟨W.heap.size, 0, none⟩) n n) ⟨cs.toArray⟩ := by
  refine ⟨_, n, by rw [← hn]; rfl, .inr ⟨W.heap.size, 0, _, _, rfl, heap_alloc_new W _, fun j hj => ?_⟩⟩
  have := World.cell?_alloc_mark W (cs.map fun b => Value.int .u8 b.toNat).toArray 5 fr j
  rw [Nat.zero_add, this]
  have hj2 : j < cs.length := hj
  simp [hj2]
theorem conv_const (w : World) (a : Addr) (v : Value) (C : Array Value) (n c : Nat) : (convert 38 38 (.slice (some ⟨w.heap.size, 0, none⟩) n c)).run Tryz.prog ((w.setCell a v).alloc (.cells C 5)) = .ok (.slice (some ⟨w.heap.size, 0, none⟩) n c) ((w.setCell a v).alloc (.cells C 5 (C.size, C.size + 1))) := by
  have h := Lib.run_convert_bytes_const (P := Tryz.prog) (w.setCell a v) 38 5 C n c Tryz.underlying38 Tryz.underlying5
  have e : (w.setCell a v).heap.size = w.heap.size := by simp
  rw [e] at h
  exact h
def lostB : ByteArray := ⟨#[108, 111, 115, 116]⟩
theorem lost_at (w : World) (a : Addr) (v : Value) : BytesAt ((w.setCell a v).alloc (.cells #[.int .u8 108, .int .u8 111, .int .u8 115, .int .u8 116] 5 (4, 5))) (.slice (some ⟨w.heap.size, 0, none⟩) 4 4) lostB := by
  have h := lit_bytes2 (w.setCell a v) [108, 111, 115, 116] 4 (4, 5) rfl
  have e : (w.setCell a v).heap.size = w.heap.size := by simp
  rw [e] at h
  exact h
def pLost : ByteArray := ⟨#[47, 108, 111, 115, 116]⟩
theorem copyD {t : Nat} (h : Trio w P p s l pr fs po so lo W) (hf : FineD fs t) (ht : t ≤ 200) :
    Calls Tryz.prog 40 #[.pointer (some ⟨pr, 0, none⟩)] W fun e W' => ∃ q, e = .returned (.pointer (some ⟨q, 0, none⟩)) ∧ Trio w P p s l q fs po so lo (W'.setCell ⟨P, 1, none⟩ (.pointer (some ⟨q, 0, none⟩))) ∧ Stay W (W'.setCell ⟨P, 1, none⟩ (.pointer (some ⟨q, 0, none⟩))) ∧ W'.cell? ⟨P, 1, none⟩ = some (.pointer (some ⟨pr, 0, none⟩)) ∧ W'.frozen? ⟨P, 1, none⟩ = false := by
  obtain ⟨vf, gd, cd, dv, hO, hd⟩ := h.duo.doc
  refine (Vf.copy_any pr gd cd fs vf dv W hO (hf.rfit ht).files (by have := hf.nd; omega) hf.pos (fun d hd => by
    have := hf.each d hd
    exact ⟨by omega, by omega, by omega⟩)).mono ?_
  rintro e W' ⟨q, vF, gd', cd', dvs, he, hC⟩
  obtain ⟨h1, h2, h3⟩ := Vf.copied_owns hO hf.pos hC
  have hbox := h.duo.box.keep (h2.block P h.duo.box.lt)
  exact ⟨q, he, trio_doc h h1 h2 h3, (Stay.below h2).trans (stay_box hbox _), by rw [hbox.cell]; rfl, hbox.frozen 1⟩
theorem copyF {T : Nat} (h : Duo w P p s l pr fs W) (hf : Fine s T) (hT : T ≤ 100000) (hr : 0 ≤ s.room) :
    Calls Tryz.prog 25 #[.pointer (some ⟨p, 0, none⟩)] W fun e W' => ∃ p' l', e = .returned (.pointer (some ⟨p', 0, none⟩)) ∧ Trio w P p' s l' pr fs p s l (W'.setCell ⟨P, 0, none⟩ (.pointer (some ⟨p', 0, none⟩))) ∧ Stay W (W'.setCell ⟨P, 0, none⟩ (.pointer (some ⟨p', 0, none⟩))) ∧ W'.cell? ⟨P, 0, none⟩ = some (.pointer (some ⟨p, 0, none⟩)) ∧ W'.cell? ⟨P, 1, none⟩ = some (.pointer (some ⟨pr, 0, none⟩)) ∧ W'.frozen? ⟨P, 0, none⟩ = false := by
  refine (copy_any p s l T W h.one.f hf.fits hT hr).mono ?_
  rintro e W' ⟨p', l', he, hA, hb, hn⟩
  have hbox := h.box.keep (hb.block P h.box.lt)
  exact ⟨p', l', he, trio_new h hA hb hn, (Stay.below hb).trans (stay_box hbox _), by rw [hbox.cell]; rfl, by rw [hbox.cell]; rfl, hbox.frozen 0⟩
set_option maxRecDepth 100000 in
set_option maxHeartbeats 2000000 in
theorem do_copy {T t : Nat} (o : Op) (hk : o.kind.tmod 11 = 10) (h : Duo w P p s l pr fs W) (hf : Fine s T) (hT : T ≤ 90000) (hfd : FineD fs t) (ht : t ≤ 200) (hr : 0 ≤ s.room) :
    Calls Tryz.prog 13 #[.pointer (some ⟨P, 0, none⟩), opV o] W fun e W' => e = .returned (.bool true) ∧ (∃ p' l' pr', Duo w P p' s l' pr' fs W') ∧ Stay W W' := by
  have okL : okS lostB := by unfold okS; decide
  have okA' : okS pA := by unfold okS; decide
  have okL' : okS pLost := by unfold okS; decide
  have hf2 := hf.write (b := lostB) okA'
  have hf3 := hf2.mkdir (path := pLost)
  have HC : Hid (∀ V l, Duo w P p s l pr fs V → _) := Lib.hid fun V l h => copyF (W := V) (l := l) h hf (by omega) hr
  have HD : Hid (∀ V p' l', Trio w P p' s l' pr fs p s l V → _) := Lib.hid fun V p' l' h => copyD (W := V) (p := p') (l := l') h hfd ht
  have HW : Hid (∀ V p' l' q v, Trio w P p' s l' q fs p s l V → BytesAt V v lostB → Calls Tryz.prog 16 #[.pointer (some ⟨p, 0, none⟩), .string ⟨#[47, 97]⟩, v] V fun e V' => (∃ r, e = .returned (.int .i64 r)) ∧ (∃ lo', Trio w P p' s l' q fs p (writeS s pA lostB) lo' V') ∧ Stay V V') := Lib.hid fun V p' l' q v h hv => (write_any p s l T pA lostB v V h.old hf.fits (by omega) okA' hv).mono fun e V' ⟨he, ha⟩ => ⟨⟨_, he⟩, h.onOld ha, stayF h.old ha⟩
  have HM : Hid (∀ V p' l' q lo, Trio w P p' s l' q fs p (writeS s pA lostB) lo V → Calls Tryz.prog 23 #[.pointer (some ⟨p, 0, none⟩), .string ⟨#[47, 108, 111, 115, 116]⟩] V fun e V' => (∃ r, e = .returned (.int .i64 r)) ∧ (∃ lo', Trio w P p' s l' q fs p (mkdirS (writeS s pA lostB) pLost) lo' V') ∧ Stay V V') := Lib.hid fun V p' l' q lo h => (mkdir_any p _ lo _ pLost V h.old hf2.fits okL').mono fun e V' ⟨he, ha⟩ => ⟨⟨_, he⟩, h.onOld ha, stayF h.old ha⟩
  have HR : Hid (∀ V p' l' q lo, Trio w P p' s l' q fs p (mkdirS (writeS s pA lostB) pLost) lo V → Calls Tryz.prog 19 #[.pointer (some ⟨p, 0, none⟩), .int .i64 o.n] V fun e V' => (∃ r, e = .returned r) ∧ (∃ lo' so, Trio w P p' s l' q fs p so lo' V') ∧ Stay V V') := Lib.hid fun V p' l' q lo h => (reboot_any p _ lo _ o.n V h.old hf3.fits (by omega) hf3.canon).mono fun e V' ⟨he, ha, _, _⟩ => ⟨he, by
    obtain ⟨lo', h2⟩ := h.onOld ha
    exact ⟨lo', _, h2⟩, stayF h.old ha⟩
  have hq : IntKind.u8.wrap 10 = 10 := by kernel_rfl
  have kc := conv_const
  obtain ⟨h1, hO, hs1⟩ := box_op h o
  have hPl : P < W.heap.size := h.box.lt
  have a0 := h.boxF; have a1 := h.boxG
  obtain ⟨O, hOe⟩ : ∃ O, W.heap.size = O := ⟨_, rfl⟩
  rw [hOe] at hO
  have b0 := h1.boxF; have b1 := h1.boxG
  have H1 := Lib.hid h1; have HO := Lib.hid hO; have HS := Lib.hid hs1
  unfold opV
  clear h hf hfd hf2 hf3 h1 hO hs1 okL okA' okL'
  go_enter Tryz.func13, Tryz.ntmps13
  go_wp2_with (first
    | (go_at_call 25; refine (HC.out _ _ H1.out).mono ?_; clear HC; rintro e w2 ⟨p', l', rfl, h2, st2, c0, c1, z0⟩; have T2 := Lib.hid h2; have S2 := Lib.hid (HS.out.trans st2); have O2 := Lib.hid (st2.hold HO.out (by decide)); clear h2 st2)
    | (go_at_call 40; refine (HD.out _ _ _ T2.out).mono ?_; clear HD; rintro e w3 ⟨q, rfl, h3, st3, c3, z3⟩; have T3 := Lib.hid (h3.keep ((Below.refl _ _).alloc (Nat.le_refl _) (.cells #[.int .u8 108, .int .u8 111, .int .u8 115, .int .u8 116] 5 (4, 5)))); have S3 := Lib.hid ((S2.out.trans st3).trans (Stay.below ((Below.refl _ _).alloc (Nat.le_refl _) (.cells #[.int .u8 108, .int .u8 111, .int .u8 115, .int .u8 116] 5 (4, 5))))); have O3 := Lib.hid ((Stay.below ((Below.refl _ _).alloc (Nat.le_refl _) (.cells #[.int .u8 108, .int .u8 111, .int .u8 115, .int .u8 116] 5 (4, 5)))).hold (st3.hold O2.out (by decide)) (by decide)); have B3 := Lib.hid (lost_at w3 ⟨P, 1, none⟩ (.pointer (some ⟨q, 0, none⟩))); clear h3 st3)
    | (go_at_call 16; refine (HW.out _ _ _ _ _ T3.out B3.out).mono ?_; clear HW; rintro e w4 ⟨⟨r4, rfl⟩, ⟨l4, h4⟩, st4⟩; have T4 := Lib.hid h4; have S4 := Lib.hid (S3.out.trans st4); have O4 := Lib.hid (st4.hold O3.out (by decide)); clear h4 st4)
    | (go_at_call 23; refine (HM.out _ _ _ _ _ T4.out).mono ?_; clear HM; rintro e w5 ⟨⟨r5, rfl⟩, ⟨l5, h5⟩, st5⟩; have T5 := Lib.hid h5; have S5 := Lib.hid (S4.out.trans st5); have o5 : w5.cell? ⟨O, 3, none⟩ = some (.int .i64 o.n) := (by rw [(st5.hold O4.out (by decide)).cell]; rfl); clear h5 st5)
    | (go_at_call 19; refine (HR.out _ _ _ _ _ T5.out).mono ?_; clear HR; rintro e w6 ⟨⟨r6, rfl⟩, ⟨l6, s6, h6⟩, st6⟩; have T6 := Lib.hid h6; have S6 := Lib.hid (S5.out.trans st6); clear h6 st6)
    | fail)
  go_ret
  exact ⟨rfl, ⟨_, _, _, T6.out.duo⟩, S6.out⟩
end
end Go.Proofs.YtdbcjiapbehacaaGreatDoor.Vp
