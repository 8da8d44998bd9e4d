/- Layer 14: Prepare, Restore. -/
import Derived.Test.YtfcafahgmnnlnaaQ17
namespace Go.Proofs.Ytfcafahgmnnlnaa.Qu
open Go.RowKit Go.Maps Go.Deep
set_option linter.unusedVariables false
set_option linter.unusedSimpArgs false

theorem QAt.cur_len {w : World} {g of N : Nat} {tt : TypeId} {cs : Array Value} {S : QS} (h : QAt w g of tt cs S N) (n : Int) : (curQ S.ws n).1.length ≤ N := by
  unfold curQ lookQ
  rcases hf : findQ S.ws n with _ | y
  · exact Nat.zero_le _
  · exact (h.le y (findQ_mem hf).1).1
theorem lay_same (ws : List WQ) (n : Int) (p : Bool) (hd : ws.Pairwise fun a b => a.n ≠ b.n) : putsW (layQ ws n (curQ ws n).1 p) = putsW ws := by
  have := putsW_lay ws n (curQ ws n).1 p hd
  omega
theorem QInv.ws {S : QS} {ws' : List WQ} (h : QInv S) (hp : putsW ws' = putsW S.ws) : QInv { S with ws := ws' } := ⟨by dsimp only; rw [hp]; exact h.room, h.g0, by dsimp only; rw [hp]; exact h.last⟩
theorem QOk.ws' {S : QS} {ws' : List WQ} (h : QOk S) (hp : putsW ws' = putsW S.ws) : QOk { S with ws := ws' } := ⟨by dsimp only; rw [hp]; exact h.room, h.g0, by dsimp only; rw [hp]; exact h.last⟩
def prepM (S : QS) (n : Int) : (List Ch × Int) × QS :=
  if openE S n ≠ 0 then (([], openE S n), S) else if (lookQ S.ws n).isSome = false then (([], 0), S) else (((curQ S.ws n).1, 0), { S with ws := layQ S.ws n (curQ S.ws n).1 true })
theorem prep_nil (n : Int) (w : World) : Calls Try.prog 25 #[.pointer none, .int .i64 n] w fun e w' => e = .returned (.tuple #[.slice none 0 0, .int .i64 6]) ∧ w = w' := by
  go_enter Try.func25, Try.ntmps25
  go_wp2_with fail
  refine (open_nil n w).mono ?_
  rintro e w1 ⟨rfl, rfl⟩
  go_wp2
  go_ret2
  exact ⟨rfl, rfl⟩
set_option maxRecDepth 100000 in
set_option maxHeartbeats 2000000 in
theorem prep_any (g of : Nat) (tt : TypeId) (cs : Array Value) (S : QS) (N : Nat) (n : Int) (w : World) (h : QAt w g of tt cs S N) (hN : N < 300000) (hn : i64ok n) :
    Calls Try.prog 25 #[.pointer (some ⟨g, of, none⟩), .int .i64 n] w fun e w' => (∃ A q c, e = .returned (.tuple #[.slice A q c, .int .i64 (prepM S n).1.2]) ∧ q = (prepM S n).1.1.length ∧ OwnC w' w.heap.size A c (prepM S n).1.1) ∧ QO w g of tt cs (prepM S n).2 (N + 1) w' := by
  have HO := Lib.hid (open_any g of tt cs S N n w h hn)
  obtain ⟨er, her⟩ : ∃ er, er = openE S n := ⟨_, rfl⟩
  rw [← her] at HO
  by_cases h0 : er = 0
  · subst h0
    obtain ⟨m, A, q, c, h32, hq, hc, _, r2⟩ := h.look hn
    have c32 := (h.bk.cell (of + 2)).trans h32
    have hlen := h.cur_len n
    obtain ⟨p, hp⟩ : ∃ p, p = (curQ S.ws n).2 := ⟨_, rfl⟩
    rw [← hp] at r2
    obtain ⟨w3, hw3⟩ : ∃ w3, w3 = w.alloc (.cells #[.slice A q c, .bool p] 75) := ⟨_, rfl⟩
    have b3 : Below w.heap.size w w3 := by rw [hw3]; exact ba _ _
    have kw : Blk w3 w.heap.size 75 #[.slice A q c, .bool p] := by rw [hw3]; exact Blk.new _ _ _
    have d1 := kw.cell 1
    have f1 := kw.frozen 1
    simp only [List.getElem?_toArray, List.getElem?_cons_zero, List.getElem?_cons_succ] at d1
    have HW3 := Lib.hid hw3
    rcases hs : (lookQ S.ws n).isSome with _ | _
    · have hM : prepM S n = (([], 0), S) := by unfold prepM; rw [if_neg (by rw [← her]; simp), if_pos hs]
      rw [hM]
      rw [hs] at r2
      have HF := Lib.hid (QO.same (h.more (Nat.le_succ N)) b3)
      rw [hw3] at d1 f1
      clear h hM her hq hc h32 hlen hp hw3 b3 kw hs
      go_enter Try.func25, Try.ntmps25
      go_wp2_with fail
      refine HO.out.mono ?_
      rintro e w1 ⟨rfl, rfl⟩
      go_wp2
      rw [← HW3.out]
      go_ret2
      exact ⟨⟨none, 0, 0, rfl, rfl, OwnC.nil _ _⟩, HF.out⟩
    · have hM : prepM S n = (((curQ S.ws n).1, 0), { S with ws := layQ S.ws n (curQ S.ws n).1 true }) := by unfold prepM; rw [if_neg (by rw [← her]; simp), if_neg (by rw [hs]; simp)]
      rw [hM]
      rw [hs] at r2
      obtain ⟨l, hl⟩ : ∃ l, l = (curQ S.ws n).1 := ⟨_, rfl⟩
      have hinv : QInv { S with ws := layQ S.ws n l true } := by rw [hl]; exact h.iv.ws (lay_same S.ws n true h.nd)
      rw [← hl] at hq hc hlen ⊢
      obtain ⟨w4, hw4⟩ : ∃ w4, w4 = w.alloc (.cells #[.slice A q c, .bool true] 75) := ⟨_, rfl⟩
      have b4 : Below w.heap.size w w4 := by rw [hw4]; exact ba _ _
      have kw4 : Blk w4 w.heap.size 75 #[.slice A q c, .bool true] := by rw [hw4]; exact Blk.new _ _ _
      have hgl := h.lt
      have HL := Lib.hid (lay_any g of tt cs S N n A l q c true w4 (h.below b4) (by omega) hn hq (by omega) (hc.below b4) hinv)
      have p0 := kw4.cell 0
      have p1 := kw4.cell 1
      simp only [List.getElem?_toArray, List.getElem?_cons_zero, List.getElem?_cons_succ] at p0 p1
      have H4 := Lib.hid (And.intro kw4 (And.intro b4 (And.intro (hc.below b4) (And.intro (h.below b4).bk (And.intro h.ty.1 (And.intro hgl (And.intro hq hlen)))))))
      have HW4 := Lib.hid hw4
      rw [hw3] at d1 f1
      rw [hw4] at p0 p1
      clear h hM her hq hc h32 hlen hp hw3 b3 kw hs hl hinv hw4 b4 kw4 hgl
      go_enter Try.func25, Try.ntmps25
      go_wp2_with fail
      refine HO.out.mono ?_
      rintro e w1 ⟨rfl, rfl⟩
      go_wp2_with fail
      rw [← HW4.out]
      refine HL.out.mono ?_
      rintro e w5 ⟨rfl, ⟨⟨cs5, hk5, hkp5⟩, hg5⟩⟩
      obtain ⟨kw4, b4, hc4, hbk, hty, hgl, hq, hlen⟩ := H4.out
      have kw5 := kw4.kept hg5 (fun e => by have := Option.some.inj e; omega)
      have HCl := Lib.hid (cclone_any A l q c w5 (Lib.hid hq) (Lib.hid (by omega)) (hc4.kept hg5 hbk hty))
      have p0' := kw5.cell 0
      simp only [List.getElem?_toArray, List.getElem?_cons_zero, List.getElem?_cons_succ] at p0'
      have H5 := Lib.hid (And.intro hk5 (And.intro hkp5 (And.intro ((lbelow_grown b4 (some g)).trans hg5) hq)))
      clear d1 f1 p0 p1 kw4 b4 hc4 hbk hty hk5 hkp5 hg5 kw5 hgl hq hlen
      go_wp2_with fail
      refine HCl.out.mono ?_
      rintro e w6 ⟨A6, c6, rfl, own6, b6⟩
      have HF := Lib.hid (And.intro own6 (And.intro (H5.out.1.below b6) (H5.out.2.2.1.trans (lbelow_grown b6 (some g)))))
      clear own6 b6 p0'
      go_wp2
      go_ret2
      exact ⟨⟨A6, q, c6, rfl, H5.out.2.2.2, HF.out.1.less H5.out.2.2.1.size⟩, ⟨cs5, HF.out.2.1, H5.out.2.1⟩, HF.out.2.2⟩
  · have hM : prepM S n = (([], er), S) := by unfold prepM; rw [if_pos (by rw [← her]; exact h0), her]
    rw [hM]
    have HF := Lib.hid (QO.same (h.more (Nat.le_succ N)) (Below.refl _ _))
    have hb : (er != 0) = true := by simp [h0]
    clear h hM her
    go_enter Try.func25, Try.ntmps25
    go_wp2_with fail
    refine HO.out.mono ?_
    rintro e w1 ⟨rfl, rfl⟩
    go_wp2
    go_ret2
    exact ⟨⟨none, 0, 0, rfl, rfl, OwnC.nil _ _⟩, HF.out⟩
end Go.Proofs.Ytfcafahgmnnlnaa.Qu
