/- Layer 3: all records at the front are read. -/
import Derived.Test.YthaamnkihnbgaaaZb
import Derived.Test.YthaamnkihnbgaaaZr
import Derived.Test.YthaamnkihnbgaaaMarks
import Derived.Test.YthaamnkihnbgaaaInvIn
namespace Go.Proofs.Ythaamnkihnbgaaa
open Go.RowKit Go.Shelf
attribute [local go_sem] Oper.semAt_some
set_option linter.unusedVariables false
set_option linter.unusedSimpArgs false

/-- The records at b's front, and how many bytes they take. -/
def readL : Nat → List UInt8 → List (Int × List UInt8) × Nat
  | 0, _ => ([], 0)
  | k + 1, b => match frontR b with
    | none => ([], 0)
    | some (i, d, n) => (((i : Int), d) :: (readL k (b.drop n)).1, n + (readL k (b.drop n)).2)
def readR (b : List UInt8) := readL b.length b
theorem readL_none {k : Nat} {b : List UInt8} (h : frontR b = none) : readL k b = ([], 0) := by
  cases k with
  | zero => rfl
  | succ k => rw [readL, h]
theorem readL_some {k : Nat} {b : List UInt8} {i n : Nat} {d : List UInt8} (h : frontR b = some (i, d, n)) : readL (k + 1) b = (((i : Int), d) :: (readL k (b.drop n)).1, n + (readL k (b.drop n)).2) := by rw [readL, h]
theorem frontR_len {b : List UInt8} {i n : Nat} {d : List UInt8} (h : frontR b = some (i, d, n)) : 7 ≤ n ∧ n ≤ b.length ∧ n ≤ 1031 ∧ 1 ≤ i ∧ i ≤ 255 ∧ d.length + 7 = n := by
  unfold frontR at h
  split at h
  · cases h
  · split at h
    · cases h
    · split at h
      · cases h
      · rename_i g1 g2 g3
        cases h
        have hk : kindOf b < 256 := by
          unfold kindOf
          have h1 := num_lt ((b.drop 2).take 1)
          have h2 : ((b.drop 2).take 1).length = 1 := by rw [List.length_take, List.length_drop]; omega
          rw [h2] at h1
          simpa using h1
        have he : 3 ≤ endOf b := by unfold endOf; omega
        refine ⟨by omega, by omega, by omega, by omega, by omega, ?_⟩
        rw [List.length_drop, List.length_take]; omega

theorem grownBy_putObj' (W : World) (r : Nat) (o' : Obj) : W.grownBy (W.putObj r o') (some r) := ⟨rfl, rfl, rfl, by simp [World.putObj], fun k _ hk => World.putObj_heap_other (fun e => hk (by rw [e]))⟩
theorem Blk.put {w : World} {g : Nat} {t : TypeId} {cs : Array Value} (h : Blk w g t cs) {r : Nat} (o' : Obj) (hne : g ≠ r) : Blk (w.putObj r o') g t cs := (World.putObj_heap_other hne).trans h
theorem gset (w : World) (p i : Nat) (v : Value) : w.grownBy (w.setCell ⟨p, i, none⟩ v) (some p) :=
  ⟨rfl, rfl, rfl, by simp [World.setCell], fun k _ hk => Below.heap_setCell w _ v k (fun e => hk (by simp [e]))⟩

/-- What the loop has between two rounds. -/
structure RI (w : World) (q : Nat) (rs : List (Int × List UInt8)) (W : World) : Prop where
  bel : Below w.heap.size w W
  size : w.heap.size + 2 ≤ W.heap.size
  lst : ∃ A c, Blk W w.heap.size 30 #[.slice A rs.length c] ∧ RecsAt W (w.heap.size + 2) A c rs
  pos : Blk W (w.heap.size + 1) 3 #[.int .i64 q]
section
variable {w W W' : World} {q : Nat} {rs : List (Int × List UInt8)}
theorem RI.put (h : RI w q rs W) {r : Nat} {o : Obj} (o' : Obj) (hr : W.heap[r]? = some o) (ho : o.isCells = false) (hB : w.heap.size + 2 ≤ r) : RI w q rs (W.putObj r o') := by
  obtain ⟨A, c, e1, e2⟩ := h.lst
  exact ⟨h.bel.grown (grownBy_putObj' W r o') h.bel.size (fun k e => by cases e; omega), by rw [World.putObj_size]; exact h.size, ⟨A, c, e1.put _ (by omega), e2.kept (grownBy_putObj' W r o') (fun k e => by cases e; exact .inr ⟨o, hr, ho⟩)⟩, h.pos.put _ (by omega)⟩
theorem RI.below (h : RI w q rs W) (hb : Below W.heap.size W W') : RI w q rs W' := by
  obtain ⟨A, c, e1, e2⟩ := h.lst
  exact ⟨bt h.bel hb, Nat.le_trans h.size hb.size, ⟨A, c, e1.below hb e1.lt, e2.below hb⟩, h.pos.below hb h.pos.lt⟩
theorem RI.alloc (h : RI w q rs W) (o : Obj) : RI w q rs (W.alloc o) := h.below (ba W o)
end
theorem wpListIn_append_run {Fc : Fence} {n : Nat} {P : Program} (hFn : ∀ f, Fc.fn f) {w : World} {ops : Array Oper} {rest : List Oper} {o : Oper} {a : Act} {Q : Exit → Act → World → Prop} (hgd : o.guard = none) (s x : Operand) (t : TypeId)
    (ho : o.op = .call { callee := .builtin .append, args := #[s, x], argTypes := #[t, t] }) (sv xv v : Value) (w' : World) (hs : a.eval s = sv) (hx : a.eval x = xv) (hrun : (Builtin.append_ #[t, t] o.type #[sv, xv]).run P w = .ok v w') (h : wpListIn Fc n P ops Q rest (a.put o.dst v) w') :
    wpListIn Fc n P ops Q (o :: rest) a w := by
  refine wpListIn_plain hgd fun _ hK => ?_
  unfold Oper.wpIn
  refine ⟨fun f _ => hFn f, ?_⟩
  rw [Oper.semAt_eq _ _ _ (by intro c; rw [ho]; simp)]
  unfold execOp
  simp only [ho, resolve, invoke, builtin, Sem.run_bind, Sem.run_pure, Result.andThen_ok, List.map_toArray, List.map_cons, List.map_nil, hs, hx, hrun]
  exact hK _ _ h

theorem MarksAt.put {W : World} {lo B l : Nat} {Ds : List Nat} (h : MarksAt W lo Ds) (hlt : ∀ D ∈ Ds, D < B) (hl : B ≤ l) (o' : Obj) : MarksAt (W.putObj l o') lo Ds :=
  ⟨fun D hD => ⟨(h.1 D hD).1, (World.putObj_heap_other (by have := hlt D hD; omega)).trans (h.1 D hD).2⟩, h.2⟩
theorem MarksAt.tail {W : World} {lo D : Nat} {Ds : List Nat} (h : MarksAt W lo (D :: Ds)) : MarksAt (W.putObj D (.deferred none)) lo Ds := by
  have hnd := List.nodup_cons.1 h.2
  exact ⟨fun E hE => ⟨(h.1 E (by simp [hE])).1, (World.putObj_heap_other (fun e => hnd.1 (by rw [← e]; exact hE))).trans (h.1 E (by simp [hE])).2⟩, hnd.2⟩
theorem RecsAt.taken {B lo : Nat} {A : Option Addr} {c : Nat} {rs : List (Int × List UInt8)} : ∀ (Ds : List Nat) (W : World), RecsAt W B A c rs → MarksAt W lo Ds → RecsAt (taken W Ds) B A c rs := by
  intro Ds
  induction Ds with
  | nil => intro W h _; exact h
  | cons D Ds ih =>
    intro W h hM
    exact ih _ (h.kept (grownBy_putObj' W D _) (fun r e => by cases e; exact .inr ⟨_, (hM.1 D (by simp)).2, rfl⟩)) hM.tail
theorem RI.bump {w W W1 W2 W3 W4 : World} {q m : Nat} {rs rs2 : List (Int × List UInt8)} {A2 : Option Addr} {c2 : Nat} {row : Option Nat} (h : RI w q rs W) (hb1 : Below W.heap.size W W1) (hg : W1.grownBy W2 row) (hr : ∀ r, row = some r → w.heap.size + 2 ≤ r ∧ ∃ cs fz, W1.heap[r]? = some (.cells cs 24 fz))
    (hp : RecsAt W2 (w.heap.size + 2) A2 c2 rs2) (h3 : W3 = W2.setCell ⟨w.heap.size, 0, none⟩ (.slice A2 rs2.length c2)) (h4 : W4 = W3.setCell ⟨w.heap.size + 1, 0, none⟩ (.int .i64 m)) : KeepsOthers W W4 ∧ RI w m rs2 W4 := by
  obtain ⟨Ao, co, e1, e2⟩ := h.lst
  have x1 := e1.below hb1 e1.lt
  have y1 := h.pos.below hb1 h.pos.lt
  have x2 : Blk W2 w.heap.size 30 #[.slice Ao rs.length co] := x1.kept hg (fun e => by have := (hr _ e.symm).1; omega)
  have y2 : Blk W2 (w.heap.size + 1) 3 #[.int .i64 q] := y1.kept hg (fun e => by have := (hr _ e.symm).1; omega)
  have b2 : Below w.heap.size w W2 := (bt h.bel hb1).grown hg (bt h.bel hb1).size (fun r e => by have := (hr r e).1; omega)
  have hs := h.size
  have hs1 := hb1.size
  have hs2 := hg.size
  subst h4 h3
  refine ⟨((⟨hb1.size, fun k o hk _ => (hb1.block k (Array.getElem?_eq_some_iff.1 hk).1).trans hk⟩ : KeepsOthers W W1).trans (KeepsOthers.of_grownBy hg fun j o hj ho => ?_)).trans ((KeepsOthers.setCell _ _ _).trans (KeepsOthers.setCell _ _ _)), ?_, ?_, ⟨A2, c2, ?_, ?_⟩, ?_⟩
  · obtain ⟨_, cs, fz, e⟩ := hr j hj
    rw [e] at ho; cases ho; rfl
  · exact (b2.setCell (Nat.le_refl _) _).setCell (show w.heap.size ≤ w.heap.size + 1 by omega) _
  · simp [World.setCell]; omega
  · have := (x2.set_ 0 (.slice A2 rs2.length c2)).far (p := ⟨w.heap.size + 1, 0, none⟩) (show w.heap.size ≠ w.heap.size + 1 by omega) (.int .i64 m)
    simpa using this
  · exact (hp.kept (gset _ w.heap.size 0 _) (fun r e => .inl (by cases e; omega))).kept (gset _ (w.heap.size + 1) 0 _) (fun r e => .inl (by cases e; omega))
  · have := (y2.far (p := ⟨w.heap.size, 0, none⟩) (show w.heap.size + 1 ≠ w.heap.size by omega) (.slice A2 rs2.length c2)).set_ 0 (.int .i64 m)
    simpa using this

theorem RecsAt.cap {u : World} {B : Nat} {A : Option Addr} {c : Nat} {rs : List (Int × List UInt8)} (h : RecsAt u B A c rs) : rs.length ≤ c := by
  obtain ⟨xs, h1, _⟩ := h
  rcases h1.2 with ⟨q1, q2⟩ | ⟨g, cap, cur, q1, hb, hg, hn, hm, _⟩
  · simp only [Value.slice.injEq] at q1
    omega
  · simp only [Value.slice.injEq] at q1
    obtain ⟨_, _, rfl⟩ := q1
    omega
def ReadO (w : World) (r : List (Int × List UInt8) × Nat) (e : Ending) (w' : World) : Prop :=
  ∃ A c, e = .returned (.tuple #[.slice A r.1.length c, .int .i64 r.2]) ∧ RecsFrom w' w.heap.size A r.1 ∧ Below w.heap.size w w' ∧ r.1.length ≤ c

/-- The loop's frame. -/
def RFrame (w : World) (A : Option Addr) (N c : Nat) (Ds : List Nat) (a : Act) : Prop :=
  ∃ u6 u7 u8 u9 u10 u11 u12 u13 u14 u15 u16 u17 u18 u19 u20 u21 u22 : Value, a = { tmps := #[.slice A N c, undef, .slice none 0 0, .int .i64 0, .pointer (some ⟨w.heap.size, 0, none⟩), .pointer (some ⟨w.heap.size + 1, 0, none⟩), u6, u7, u8, u9, u10, u11, u12, u13, u14, u15, u16, u17, u18, u19, u20, u21, u22], defers := mk Ds }
/-- A slice from a place on. -/
theorem bs_from {w : World} {B : Nat} {A : Option Addr} {l : List UInt8} (h : Bs w B A l) (q c : Nat) (hq : q ≤ l.length) (hc : l.length ≤ c) : Bs w B (if c = q then A else A.map fun x => x.add q) (l.drop q) := fun hp => by
  rw [List.length_drop] at hp
  rw [if_neg (by omega)]
  obtain ⟨b, o, rfl, h1, h2⟩ := h (by omega)
  refine ⟨b, o + q, by rw [Option.map_some, Addr.add_lit], h1, fun i hi => ?_⟩
  rw [List.length_drop] at hi
  rw [List.getElem_drop, Nat.add_assoc]
  exact h2 _ _

set_option maxRecDepth 100000 in
set_option maxHeartbeats 4000000 in
theorem read_any (A : Option Addr) (data : List UInt8) (N c : Nat) (w : World) (hN : Hid (N = data.length)) (hcap : Hid (N ≤ c)) (hc2 : Hid (c ≤ 9223372036854775807)) (hm : Hid (N ≤ 1000000)) (hbs : Bs w w.heap.size A data) :
    Calls Try.prog 15 #[.slice A N c] w (ReadO w (readR data)) := by
  have HBS := Lib.hid hbs
  clear hbs
  obtain ⟨R, hR⟩ : ∃ R, R = readR data := ⟨_, rfl⟩
  rw [← hR]
  have HR : Hid (R = readL N data) := Lib.hid (by rw [hR, hN.out]; rfl)
  clear hR
  refine (callsIn_wide (n := 9)).1 ?_
  refine callsIn_of_wp_marks Try.func15 rfl trivial ?_ rfl
  simp only [Try.ntmps15, List.size_toArray, List.length_cons, List.length_nil, Nat.reduceAdd, Nat.reduceSub, Array.replicate_succ, Array.replicate_zero, List.push_toArray, List.append_toArray, List.nil_append, List.cons_append]
  gi_wp2_with fail
  refine wpIn_scope_straight ?_
  gi_wp2_with fail
  refine wpIn_label ?_
  gi_wp2_with fail
  have h0 : RI w 0 [] ((w.alloc (.cells #[.slice none 0 0] 30)).alloc (.cells #[.int .i64 0] 3)) := by
    refine ⟨bt (ba _ _) (ba _ _), by simp, ⟨none, 0, (Blk.new _ _ _).alloc _, RecsAt.nil _ _⟩, ?_⟩
    have := Blk.new (w.alloc (.cells #[.slice none 0 0] 30)) 3 #[.int .i64 0]
    rwa [World.size_alloc] at this
  refine wpIn_loop (fun a W => ∃ (q k : Nat) (rs : List (Int × List UInt8)) (Ds : List Nat), q ≤ N ∧ Hid (N ≤ q + k) ∧ Hid (rs.length ≤ q) ∧ Hid (R = (rs ++ (readL k (data.drop q)).1, q + (readL k (data.drop q)).2)) ∧ RFrame w A N c Ds a ∧ MarksAt W (w.heap.size + 2) Ds ∧ RI w q rs W)
    (fun a W => N - (match W.cell? ⟨w.heap.size + 1, 0, none⟩ with | some (.int _ z) => z.toNat | _ => 0)) ?h0 ?round
  case h0 => exact ⟨0, N, [], [], Nat.zero_le _, Lib.hid (by omega), Lib.hid (by simp), Lib.hid (by rw [HR.out]; simp), ⟨_, _, _, _, _, _, _, _, _, _, _, _, _, _, _, _, _, rfl⟩, MarksAt.nil _ _, h0⟩
  case round =>
    clear h0
    rintro a W ⟨q, k, rs, Ds, hq, hk, hrl, hRk, ⟨u6, u7, u8, u9, u10, u11, u12, u13, u14, u15, u16, u17, u18, u19, u20, u21, u22, rfl⟩, hMk, hI⟩
    have c50 := hI.pos.cell 0
    simp only [List.getElem?_toArray, List.getElem?_cons_zero] at c50
    have hqI : (q : Int) ≤ (N : Int) := by omega
    have hqc : (q : Int) ≤ (c : Int) := by have := hcap.out; omega
    have hq0 : (0 : Int) ≤ (q : Int) := by omega
    obtain ⟨A2, hA2⟩ : ∃ A2, A2 = (if c = q then A else Option.map (fun x => x.add q) A) := ⟨_, rfl⟩
    have hif := hA2.symm
    have hbsq := fun (W' : World) (h : Below w.heap.size w W') => bs_from (HBS.out.bt h) q c (by rw [← hN.out]; exact hq) (by rw [← hN.out]; exact hcap.out)
    rw [← hA2] at hbsq
    have Hbsq := Lib.hid hbsq
    clear hA2 hbsq
    gi_wp2_with fail
    clear hif
    refine ⟨trivial, ((callsIn_wide).2 (front_any A2 (N - q) (c - q) W)).mono ?_⟩
    rintro e w3 ⟨rfl, hD3, hb3, hz3⟩
    have hI3 := hI.below hb3
    have hM3 := hMk.keep (keepsOthers_below hb3)
    have hDs : ∀ D ∈ Ds, D < w3.heap.size := fun D hD => (Array.getElem?_eq_some_iff.1 (hM3.1 D hD).2).1
    have hsz0 := hI.size
    have Hc50 := Lib.hid c50
    clear hI hMk c50
    gi_wp2_with fail
    refine wpIn_rangeFunc_leaveX (F := Fence.wide) rfl (by omega) (gf := 55) (lb := #[.pointer (some ⟨W.heap.size, 0, none⟩)]) rfl trivial (enters_of Try.func55 (by kernel_rfl) rfl)
      (encs := encR) (fun _ => rfl) (fun _ _ => True) (fun pre W' => pre = [] ∧ RI w q rs W' ∧ MarksAt W' (w.heap.size + 2) Ds) (fun cd xs W' => ∃ x : RV, xs = [x] ∧ cd = .exit 1 ∧ RI w (q + x.size) (rs ++ [((x.k : Int), x.d)]) W' ∧ MarksAt W' (w.heap.size + 2) Ds)
      (fun x W' => Raw W' x.g 5 x.d ∧ w.heap.size + 2 ≤ x.g ∧ frontR (data.drop q) = some (conR x))
      (fun xs => xs = [] ∧ frontR (data.drop q) = none) (fun xs => ∃ x : RV, xs = [x] ∧ frontR (data.drop q) = some (conR x)) 1
      (fun _ _ => trivial) (fun _ _ _ _ _ _ _ => trivial)
      (fun s W' l o o' hi hl ho hoc => ⟨hi.1, hi.2.1.put o' ho hoc (by omega), hi.2.2.put hDs hl o'⟩)
      (fun cd s W' l o o' hi hl ho hoc => by obtain ⟨x, e1, e2, e3, e4⟩ := hi; exact ⟨x, e1, e2, e3.put o' ho hoc (by omega), e4.put hDs hl o'⟩)
      (fun o o' => ⟨rfl, (hI3.alloc o).alloc o', (hM3.keep (KeepsOthers.alloc _ _)).keep (KeepsOthers.alloc _ _)⟩)
      ?iter (fun x a' W' => ∃ t6, Blk W' t6 24 #[.int .i64 x.k, .slice (some ⟨x.g, 0, none⟩) x.d.length x.d.length] ∧ Raw W' x.g 5 x.d ∧ w.heap.size + 2 ≤ x.g ∧ frontR (data.drop q) = some (conR x) ∧ a' = { tmps := #[.slice A N c, undef, .slice none 0 0, .int .i64 0, .pointer (some ⟨w.heap.size, 0, none⟩), .pointer (some ⟨w.heap.size + 1, 0, none⟩), .pointer (some ⟨t6, 0, none⟩), .int .i64 x.size, .slice A N c, .int .i64 q, .slice A2 (N - q) (c - q), .func (.func 55) #[] #[.pointer (some ⟨W.heap.size, 0, none⟩)], .agg #[.int .i64 x.k, .slice (some ⟨x.g, 0, none⟩) x.d.length x.d.length], .int .i64 x.size, u14, u15, u16, u17, u18, u19, u20, u21, u22], defers := [] })
      (fun x a' W' l o o' h hl ho hoc => by
        obtain ⟨t6, h2, h3, h4, h5, h6⟩ := h
        exact ⟨t6, h2.put _ (fun e => by subst e; unfold Blk at h2; rw [h2] at ho; cases ho; cases hoc), (World.putObj_heap_other (fun e => by subst e; unfold Raw at h3; rw [h3] at ho; cases ho; cases hoc)).trans h3, h4, h5, h6⟩) ?assign ?body ?done ?stop
    case iter =>
      intro l W1 Z Y hZK hbW1 h01 hz1 hYY
      have hA2 := Hbsq.out W1 (h01.2.1.bel)
      have hD1 := hD3.below hbW1 hD3.lt
      refine (front1_in 8 (by omega) l W.heap.size A2 (data.drop q) (N - q) (c - q) w (Lib.hid (by rw [List.length_drop, ← hN.out])) (Lib.hid (by have := hcap.out; omega)) (Lib.hid (by have := hc2.out; omega)) (Lib.hid (by have := hm.out; omega))
        (fun W' => (RI w q rs W' ∧ MarksAt W' (w.heap.size + 2) Ds) ∧ Z W') (fun x W' => Y [x] W') (w.heap.size + 2)
        (fun Wa Wb hb h => ⟨⟨h.1.1.below hb, h.1.2.keep (keepsOthers_below hb)⟩, hZK _ _ (keepsOthers_below hb) h.2⟩) ?_ W1 hA2 hD1 (by have := h01.2.1.size; omega) ⟨h01.2, hz1⟩).mono ?_
      · intro x Wa h hr hg hf
        obtain ⟨fn, tmps, assign, body, hy, hR⟩ := hYY [] x Wa ⟨rfl, h.1.1, h.1.2⟩ h.2 ⟨hr, hg, hf⟩ (by simp)
        refine ⟨fn, tmps, assign, body, hy, hR.mono ?_⟩
        rintro e W' (⟨_, h2, _⟩ | h2)
        · exact absurd h2.1 (by simp)
        · exact h2
      · rintro e W' ⟨hv, (⟨hf, hJ, hz⟩ | ⟨x, hf, _, hy⟩)⟩
        · exact ⟨hv, .inl ⟨[], ⟨rfl, hf⟩, ⟨rfl, hJ⟩, hz⟩⟩
        · exact ⟨hv, .inr ⟨[x], ⟨x, rfl, hf⟩, hy⟩⟩
    case assign =>
      rintro l pre x W' K ⟨rfl, hi, hMk⟩ ⟨hr, hg, hf⟩ hK
      simp [encR]
      gi_wp2_with fail
      exact hK _ _ (KeepsOthers.alloc _ _) trivial ⟨trivial, hi.alloc _, hMk.keep (KeepsOthers.alloc _ _)⟩ ⟨_, Blk.new _ _ _, hr.alloc _, hg, hf, rfl⟩
    case body =>
      rintro l pre x a' W' hl _ ⟨rfl, hi, hMk⟩ ⟨t6, hrec, hraw, hxg, hf, rfl⟩ hlen
      obtain ⟨A4, c4, e4, e4r⟩ := hi.lst
      have c40 := e4.cell 0
      have c50 := hi.pos.cell 0
      have c60 := hrec.cell 0
      have c61 := hrec.cell 1
      simp only [List.getElem?_toArray, List.getElem?_cons_zero, List.getElem?_cons_succ] at c40 c50 c60 c61
      obtain ⟨f1, f2, f3, f4, f5, f6⟩ := frontR_len hf
      rw [List.length_drop, ← hN.out] at f2
      have wq : IntKind.i64.wrap ((q : Int) + (x.size : Int)) = (q : Int) + (x.size : Int) := IntWalk.i64_in _ (by have := hm.out; omega)
      obtain ⟨W7, hW7⟩ : ∃ W7, W7 = W'.alloc (.cells #[.int .i64 x.k, .slice (some ⟨x.g, 0, none⟩) x.d.length x.d.length] 24) := ⟨_, rfl⟩
      have n0 : W7.cell? ⟨W'.heap.size, 0, none⟩ = some (.int .i64 x.k) := by rw [hW7]; exact (Blk.new _ _ _).cell 0
      have n1 : W7.cell? ⟨W'.heap.size, 1, none⟩ = some (.slice (some ⟨x.g, 0, none⟩) x.d.length x.d.length) := by rw [hW7]; exact (Blk.new _ _ _).cell 1
      have hb7 : Below W'.heap.size W' W7 := by rw [hW7]; exact ba _ _
      have hraw7 : Raw W7 x.g 5 x.d := by rw [hW7]; exact hraw.alloc _
      obtain ⟨A8, c8, w8, hrun8, hr8, row, hg8, hrow8⟩ := recs_more (e4r.below hb7) rs.length rfl (by have := hrl.out; have := hm.out; omega) x.k (some ⟨x.g, 0, none⟩) x.d.length x.d.length W'.heap.size x.d rfl (hraw7.fr hxg) (by have := hb7.size; have := hi.size; omega) n0 n1
      have y5 := (hi.pos.below hb7 hi.pos.lt).kept hg8 (fun e => by have := (hrow8 _ e.symm).1; omega)
      have y4 := (e4.below hb7 e4.lt).kept hg8 (fun e => by have := (hrow8 _ e.symm).1; omega)
      have x40 := y4.cell 0
      have z40 := y4.frozen 0
      have x50 := y5.cell 0
      have z50 := y5.frozen 0
      simp only [List.getElem?_toArray, List.getElem?_cons_zero] at x40 x50
      have hrl8 : (rs ++ [((x.k : Int), x.d)]).length = rs.length + 1 := by simp
      have hfin := fun (W9 W10 : World) (e9 : W9 = w8.setCell ⟨w.heap.size, 0, none⟩ (.slice A8 (rs ++ [((x.k : Int), x.d)]).length c8)) (e10 : W10 = W9.setCell ⟨w.heap.size + 1, 0, none⟩ (.int .i64 ((q + x.size : Nat) : Int))) => RI.bump hi hb7 hg8 hrow8 hr8 e9 e10
      rw [hrl8] at hfin
      have Hfin := Lib.hid hfin
      rw [hW7] at hrun8
      clear hfin n0 n1 hb7 hraw7 hW7 e4r e4 hr8 hrow8 hg8 y4 y5
      gi_wp2_with (gi_at_builtin; refine wpListIn_append_run (fun _ => trivial) rfl (.tmp 14) (.tmp 16) 30 rfl _ _ _ w8 rfl rfl hrun8 ?_)
      obtain ⟨k1, k2⟩ := Hfin.out _ _ rfl rfl
      rw [Int.natCast_add] at k1 k2
      exact ⟨k1, x, rfl, rfl, k2, hMk.keep k1⟩
    case done =>
      rintro D xs W' hD ⟨rfl, hf⟩ ⟨_, hi, hMk⟩ hDd
      obtain ⟨A4, c4, e4, e4r⟩ := hi.lst
      have c40 := e4.cell 0
      have c50 := hi.pos.cell 0
      simp only [List.getElem?_toArray, List.getElem?_cons_zero, List.getElem?_cons_succ] at c40 c50
      gi_wp2_with fail
      refine (wpIn_wide).2 ?_
      go_quiet (fail)
      have hMd : MarksAt (W'.drewN nq) (w.heap.size + 2) (D :: Ds) := (hMk.cons (by omega) hDd (fun E hE => by have := hDs E hE; omega)).keep (keepsOthers_below (bl_drewN W' nq))
      have hId := hi.below (bl_drewN W' nq)
      have e4d := e4r.below (bl_drewN W' nq)
      obtain ⟨W9, hW9⟩ : ∃ W9, W9 = W'.drewN nq := ⟨_, rfl⟩
      rw [← hW9] at hMd hId e4d ⊢
      have hR0 : R = (rs, q) := by rw [hRk.out, readL_none hf]; simp
      gi_wp2_with fail
      refine leaves_marks (D :: Ds) W9 hMd ⟨_, results_tmp2 rfl _ _ _, ?_⟩
      have hlo : ∀ E ∈ D :: Ds, w.heap.size ≤ E := fun E hE => by have := (hMd.1 E hE).1; omega
      refine ⟨A4, c4, by rw [hR0]; rfl, ?_, hId.bel.trans (taken_below hlo), by rw [hR0]; exact e4d.cap⟩
      rw [hR0]
      exact (RecsAt.taken _ _ e4d hMd).list.base (by omega)
    case stop =>
      rintro D cd xs W' hD ⟨x, rfl, hf⟩ ⟨x', hx, rfl, hi, hMk⟩ hDd
      cases hx
      obtain ⟨f1, f2, f3, f4, f5, f6⟩ := frontR_len hf
      rw [List.length_drop, ← hN.out] at f2
      obtain ⟨k', rfl⟩ : ∃ k', k = k' + 1 := ⟨k - 1, by have := hk.out; omega⟩
      refine wpIn_exit ?_
      refine ⟨⟨q + x.size, k', rs ++ [((x.k : Int), x.d)], D :: Ds, by omega, Lib.hid (by have := hk.out; omega), Lib.hid (by have := hrl.out; rw [List.length_append, List.length_singleton]; omega), Lib.hid ?_, ⟨_, _, _, _, _, _, _, _, _, _, _, _, _, _, _, _, _, rfl⟩, hMk.cons (by omega) hDd (fun E hE => by have := hDs E hE; omega), hi⟩, ?_⟩
      · rw [hRk.out, readL_some hf]
        simp only [List.append_assoc, List.singleton_append, List.drop_drop, Nat.add_assoc, conR]
      · have cq := hi.pos.cell 0
        simp only [List.getElem?_toArray, List.getElem?_cons_zero] at cq
        rw [Hc50.out, cq]
        simp only [Int.toNat_natCast]
        omega
end Go.Proofs.Ythaamnkihnbgaaa
