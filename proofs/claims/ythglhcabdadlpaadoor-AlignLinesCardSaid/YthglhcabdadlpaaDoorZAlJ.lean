/- Layer 15: Match. -/
import Derived.Test.YthglhcabdadlpaaDoorZAlI
import Derived.Test.YthglhcabdadlpaaDoorZAlB
namespace Go.Proofs.YthglhcabdadlpaaDoor
open Go.RowKit
set_option linter.unusedVariables false
set_option linter.unusedSimpArgs false
set_option maxRecDepth 100000
theorem infoEv : ∃ i, Tryd.prog.info? 24 = some i ∧ i.zero = some (.agg #[.int .i64 0, .int .i64 0]) ∧ i.size = 2 ∧ i.bytes = 16 := infoP _ _ _ _ _ (by kernel_rfl)
def MtdQ (w : World) (l m : List Al.Ev) (e : Ending) (w' : World) : Prop := ∃ v, e = .returned v ∧ OwP w' w.heap.size 64 v (Al.prs (Al.mt 0 0 l m)) ∧ Below w.heap.size w w'
theorem matched_any (w : World) (a b : Option Addr) (ca cb : Nat) (l m : List Al.Ev) {B : Nat} (ha : EvR B w a l) (hb : EvR B w b m) (hB : B ≤ w.heap.size) (hl : l.length ≤ 100) (hm : m.length ≤ 100) (hcb : m.length ≤ cb) :
    Calls Tryd.prog 37 #[.slice a l.length ca, .slice b m.length cb] w (MtdQ w l m) := by
  unfold MtdQ
  by_cases h1 : l = []
  · subst h1
    have hq : Hid (Al.prs (Al.mt 0 0 [] m) = []) := rfl
    clear ha hb
    go_enter Tryd.func37, Tryd.ntmps37
    go_wp2_with fail
    go_ret
    exact ⟨_, rfl, by rw [hq.out]; exact OwP.nil _ _ _, Below.refl _ _⟩
  · by_cases h2 : m = []
    · subst h2
      have hq : Hid (Al.prs (Al.mt 0 0 l []) = []) := by unfold Hid; rw [Al.mt_nilr]; rfl
      have h3 : ((l.length : Int) == 0) = false := by
        cases l with
        | nil => exact absurd rfl h1
        | cons => simp; omega
      generalize l.length = n at h3 ⊢
      clear ha hb h1
      go_enter Tryd.func37, Tryd.ntmps37
      go_wp2_with fail
      go_ret
      exact ⟨_, rfl, by rw [hq.out]; exact OwP.nil _ _ _, Below.refl _ _⟩
    · exact mtd_any w a b ca cb l m ha hb hB hl hm hcb h1 h2
namespace Al
/-- The matched pairs behind those that stand alike. -/
def far (T : Nat) (l m : List Ev) : List Ev := (mt 0 0 (l.drop T) (m.drop T)).map fun p => (((T + p.1 : Nat) : Int), ((T + p.2 : Nat) : Int))
theorem far_len (T : Nat) (l m : List Ev) : (far T l m).length = (prs (mt 0 0 (l.drop T) (m.drop T))).length := by simp [far, prs]
theorem mat_far (l m : List Ev) (limit : Int) (h : cut l m limit = false) : prs (same (tog l m)) ++ far (tog l m) l m = prs (mat l m limit) := by
  unfold mat
  rw [h, prs_app]
  congr 1
  have := mt_shift (tog l m) (tog l m) 0 0 (l.drop (tog l m)) (m.drop (tog l m))
  simp only [Nat.add_zero] at this
  simp only [Bool.false_eq_true, if_false]
  rw [this]
  simp [far, prs]
theorem mat_cut (l m : List Ev) (limit : Int) (h : cut l m limit = true) : prs (same (tog l m)) = prs (mat l m limit) := by
  unfold mat
  rw [h]
  simp
theorem mt_bd : ∀ (i j : Nat) (a b : List Ev), ∀ p ∈ mt i j a b, p.1 < i + a.length ∧ p.2 < j + b.length
  | i, j, a, b, p, hp => by
    have h := mt_rise (n := i + a.length) (m := j + b.length) i j a b (Int.le_refl _) (Int.le_refl _)
    have := rise_mem h ((p.1 : Int), (p.2 : Int)) (by unfold prs; exact List.mem_map.2 ⟨p, hp, rfl⟩)
    simp only at this
    omega
theorem far_get {T : Nat} {l m : List Ev} {k : Nat} (hk : k < (prs (mt 0 0 (l.drop T) (m.drop T))).length) (hl : l.length ≤ 100) (hm : m.length ≤ 100) (hT : T ≤ 100) : ∃ x y X Y : Nat, (prs (mt 0 0 (l.drop T) (m.drop T)))[k]? = some ((x : Int), (y : Int)) ∧ (far T l m).take (k + 1) = (far T l m).take k ++ [((X : Int), (Y : Int))] ∧ wrap64 ((T : Int) + (x : Int)) = (X : Int) ∧ wrap64 ((T : Int) + (y : Int)) = (Y : Int) := by
  rw [prs_len] at hk
  obtain ⟨p, hp⟩ : ∃ p, (mt 0 0 (l.drop T) (m.drop T))[k]? = some p := ⟨_, List.getElem?_eq_getElem hk⟩
  have hb := mt_bd _ _ _ _ p (List.mem_of_getElem? hp)
  simp only [List.length_drop] at hb
  refine ⟨p.1, p.2, T + p.1, T + p.2, by simp [prs, hp], ?_, by unfold wrap64; omega, by unfold wrap64; omega⟩
  rw [List.take_add_one]
  congr 1
  simp [far, hp]
end Al
theorem mch_nums {n T : Nat} (hn : n ≤ 100) (hT : T ≤ n) : wrap64 ((n : Int) - (T : Int)) = ((n - T : Nat) : Int) ∧ (T : Int) ≤ (n : Int) ∧ (0 : Int) ≤ (T : Int) := ⟨by unfold wrap64; omega, by omega, by omega⟩
theorem mch_k {k gk T : Nat} (h : k + (gk + 1) = T) : (k : Int) < (T : Int) ∧ decide ((k : Int) < (T : Int)) = true ∧ decide (k < T) = true ∧ k < T ∧ (k + 1) + gk = T := ⟨by omega, decide_eq_true (by omega), decide_eq_true (by omega), by omega, by omega⟩
theorem wrK (k : Nat) (h : k ≤ 1000000) : wrap64 ((k : Int) + 1) = ((k + 1 : Nat) : Int) := by unfold wrap64; omega
theorem own63b {k : Nat} (h : k ≤ 1000) : k + 1 ≤ maxLen ∧ (k + 1) * 16 ≤ 140737488355328 := by unfold maxLen; omega
theorem mch_g {T n G g : Nat} (h : g ≤ 100) (hG : G = g) (hT : T ≤ n) (hn : n ≤ 100) : ∀ k, k ≤ G → T + k ≤ 1000 := fun k hk => by omega
theorem nil_blk : (Value.slice none 0 0).ownBlock = none := rfl
/-- A row cut from an index on: where it lies plays no part. -/
theorem slA {P : Program} {t et : TypeId} (hu : P.underlying t = some (.slice et)) (he : P.elem t = et) {i : TypeInfo} (hi : P.info? et = some i) (hs : i.size = 2) (a : Option Addr) {n ca T : Nat} (hT : T ≤ n) (hn : n ≤ ca) :
    ∃ AD, (∀ w, (Instr.slice t (.slice a n ca) (some (.int .i64 (T : Int))) none none).run P w = .ok (.slice AD (n - T) (ca - T)) w) ∧ ∀ (B : Nat) (w : World) (l : List Al.Ev), l.length = n → EvR B w a l → EvR B w AD (l.drop T) := by
  have hu' : P.underlying t = some (.slice (P.elem t)) := by rw [he]; exact hu
  refine ⟨if ca = T then a else a.map (·.add (T * 2)), fun w => ?_, fun B w l hl h => ?_⟩
  · rw [run_slice_l w t a n ca hu' .i64 (T : Int) (Int.natCast_nonneg _) (by omega)]
    rw [he]
    have hz : (sizeOf et).run P w = .ok 2 w := by simp [go_sem, sizeOf, run_typeInfo w hi, hs]
    rw [hz]
    simp [Result.andThen, sliced]
  · by_cases c : ca = T
    · exact ev_empty (by rw [List.length_drop]; omega)
    · rw [if_neg c]
      intro h0
      rw [List.length_drop] at h0
      obtain ⟨g, o, rfl, hg, hc⟩ := h (by omega)
      have := EvR.drop (g := g) (o := o) h T
      rw [Option.map_some]
      have e : (⟨g, o, none⟩ : Addr).add (T * 2) = ⟨g, o + T * 2, none⟩ := by
        by_cases c2 : T = 0
        · subst c2; simp [Addr.add]
        · have c3 : ¬ T * 2 = 0 := by omega
          simp [Addr.add, c3]
      rw [e]
      exact this (by rw [List.length_drop]; omega)
/-- Where the cells of a row lie. -/
def RowAt (w : World) (base : Nat) (a : Option Addr) (l : List Al.Ev) : Prop := 0 < l.length → ∃ g, a = some ⟨g, 0, none⟩ ∧ base ≤ g ∧ g < w.heap.size ∧ ∀ j e, l[j]? = some e → EvC w g (j * 2) e
theorem OwP.at {w : World} {base : Nat} {ty : TypeId} {v : Value} {l : List Al.Ev} (h : OwP w base ty v l) : ∃ a c, v = .slice a l.length c ∧ RowAt w base a l := by
  have h0 : w.ownsRow base ty 2 v l.length (prC l) := h
  obtain ⟨a, c, e, ev, -⟩ := h.ev
  refine ⟨a, c, e, fun hp => ?_⟩
  obtain ⟨g, o, e2, hg, cs⟩ := ev hp
  rcases h0.2 with ⟨e1, hn⟩ | ⟨g1, cap, cur, e1, hbg, -⟩
  · omega
  · rw [e] at e1
    have e3 : a = some ⟨g1, 0, none⟩ := by cases e1; rfl
    rw [e2] at e3
    obtain ⟨rfl, rfl⟩ : g = g1 ∧ o = 0 := by cases e3; exact ⟨rfl, rfl⟩
    exact ⟨g, e2, hbg, hg, fun j e hj => by have := cs j e hj; rw [Nat.zero_add] at this; exact this⟩
theorem EvC.of {w w' : World} {g o : Nat} {e : Al.Ev} (h : EvC w g o e) (hb : w'.heap[g]? = w.heap[g]?) : EvC w' g o e := by
  unfold EvC at h ⊢
  simp only [World.cell?] at h ⊢
  rw [hb]
  exact h
theorem own_ne {w : World} {base g2 : Nat} {ty : TypeId} {v : Value} {l : List Al.Ev} (h : OwP w base ty v l) (hg : w.heap.size ≤ g2) : some g2 ≠ v.ownBlock := fun e => by
  have := (World.ownsRow.lt (show w.ownsRow base ty 2 v l.length (prC l) from h) _ e.symm).2
  omega
set_option maxHeartbeats 8000000 in
theorem match_any (w : World) (a b : Option Addr) (ca cb : Nat) (l m : List Al.Ev) (L : Int) {B : Nat} (ha : EvR B w a l) (hb : EvR B w b m) (hB : B ≤ w.heap.size) (hl : l.length ≤ 100) (hm : m.length ≤ 100) (hca : l.length ≤ ca) (hcb : m.length ≤ cb) (h0 : -9223372036854775808 ≤ L) (h1 : L ≤ 9223372036854775807) :
    Calls Tryd.prog 15 #[.slice a l.length ca, .slice b m.length cb, .int .i64 L] w fun e w' => ∃ v, e = .returned (.tuple #[v, .bool (Al.cut l m L)]) ∧ OwP w' w.heap.size 64 v (Al.prs (Al.mat l m L)) ∧ Below w.heap.size w w' := by
  have HTG := hidA (tog_any w a b ca cb l m ha hb hB (Nat.le_trans hl (by decide)) (Nat.le_trans hm (by decide)))
  have hT := Al.tog_le l m
  have HMC := hidA (Al.mat_cut l m L)
  have HMF := hidA (Al.mat_far l m L)
  have HAV : Hid (∀ wz : World, Calls Tryd.prog 36 #[.int .i64 ((l.length - Al.tog l m : Nat) : Int), .int .i64 ((m.length - Al.tog l m : Nat) : Int), .int .i64 L] wz fun e w' => e = .returned (.bool (Al.cut l m L)) ∧ w' = wz) := fun wz => abv_any wz _ _ L h0 h1 (by omega) (by omega)
  obtain ⟨T, hTT⟩ : ∃ T, T = Al.tog l m := ⟨_, rfl⟩
  rw [← hTT] at HTG hT HMC HMF HAV
  obtain ⟨C, hC⟩ : ∃ C, C = Al.cut l m L := ⟨_, rfl⟩
  rw [← hC] at HMC HMF HAV ⊢
  have HA := hidA ha
  have HB := hidA hb
  have HBB := hidA hB
  have HLL : Hid (l.length ≤ 100 ∧ m.length ≤ 100) := ⟨hl, hm⟩
  have HMD : Hid (∀ (wz : World) (x y : Option Addr) (cx cy : Nat), Below w.heap.size w wz → EvR B wz x (l.drop T) → EvR B wz y (m.drop T) → m.length - T ≤ cy → Calls Tryd.prog 37 #[.slice x (l.length - T) cx, .slice y (m.length - T) cy] wz (MtdQ wz (l.drop T) (m.drop T))) := fun wz x y cx cy hw hx hy hc => by
    have := matched_any wz x y cx cy (l.drop T) (m.drop T) hx hy (Nat.le_trans hB hw.size) (by rw [List.length_drop]; omega) (by rw [List.length_drop]; omega) (by rw [List.length_drop]; exact hc)
    rw [List.length_drop, List.length_drop] at this
    exact this
  have FG : Hid (∀ k, k < (Al.prs (Al.mt 0 0 (l.drop T) (m.drop T))).length → ∃ x y X Y : Nat, (Al.prs (Al.mt 0 0 (l.drop T) (m.drop T)))[k]? = some ((x : Int), (y : Int)) ∧ (Al.far T l m).take (k + 1) = (Al.far T l m).take k ++ [((X : Int), (Y : Int))] ∧ wrap64 ((T : Int) + (x : Int)) = (X : Int) ∧ wrap64 ((T : Int) + (y : Int)) = (Y : Int)) := fun k hk => Al.far_get hk hl hm (Nat.le_trans hT.1 hl)
  have FL := hidA (Al.far_len T l m)
  have LB : Hid ((Al.prs (Al.mt 0 0 (l.drop T) (m.drop T))).length ≤ 100) := by
    unfold Hid
    rw [Al.prs_len, Al.mt_len]
    exact lcs_bdd hl
  obtain ⟨n, hn⟩ : ∃ n, n = l.length := ⟨_, rfl⟩
  have HN := hidA hn
  obtain ⟨M, hM⟩ : ∃ M, M = m.length := ⟨_, rfl⟩
  have HM := hidA hM
  rw [← hn] at hl hca hT HTG HAV HMD ⊢
  rw [← hM] at hm hcb hT HTG HAV HMD ⊢
  obtain ⟨k1, k2, k3⟩ := mch_nums hl hT.1
  obtain ⟨k4, k5, -⟩ := mch_nums hm hT.2
  obtain ⟨nT, hnT⟩ : ∃ nT, nT = n - T := ⟨_, rfl⟩
  obtain ⟨mT, hmT⟩ : ∃ mT, mT = M - T := ⟨_, rfl⟩
  rw [← hnT] at k1 HAV
  rw [← hmT] at k4 HAV
  have HNT := hidA hnT
  have HMT := hidA hmT
  have HTC : Hid (T ≤ n ∧ T ≤ M ∧ n ≤ ca ∧ M ≤ cb ∧ n ≤ 100 ∧ M ≤ 100) := ⟨hT.1, hT.2, hca, hcb, hl, hm⟩
  clear hnT hmT hn hM hl hm hca hcb hT hTT hC ha hb hB h0 h1
  obtain ⟨i0, hi, zi0, zi1, zi2⟩ := infoPair
  obtain ⟨iv, hv, vs0, vs1, vs2⟩ := infoEv
  obtain ⟨S, hS⟩ : ∃ S, S = w.heap.size := ⟨_, rfl⟩
  have HS := hidA hS
  rw [← hS] at HTG HMD ⊢
  clear hS
  go_enter Tryd.func15, Tryd.ntmps15
  go_wp2_with fail
  refine HTG.out.mono ?_
  rintro e w1 ⟨rfl, b1⟩
  have B1 := hidA b1
  clear b1 HTG
  go_wp2_with fail
  go_loopg [9, 17] T (fun gk y9 y17 wr => ∃ k : Nat, k + gk = T ∧ y17 = .int .i64 k ∧ Hid (OwP wr S 64 y9 (Al.prs (Al.same k)) ∧ Below S w1 wr))
  case atStart => exact ⟨0, by omega, rfl, OwP.nil _ _ _, Below.refl _ _⟩
  case round =>
    obtain ⟨k, hk, rfl, RR⟩ := hrel
    have BS : Hid (Below S w wr) := B1.out.trans RR.out.2
    rcases gk with _ | gk
    · obtain rfl : T = k := by omega
      have dk : decide ((T : Int) < (T : Int)) = false := decide_eq_false (Int.lt_irrefl _)
      go_wp2_with fail
      refine (HAV.out _).mono ?_
      rintro e w2 ⟨rfl, rfl⟩
      cases C
      · have hmf := HMF.out rfl
        have HF := hidA hmf
        clear hmf HMF HMC HAV
        have HS2 : Hid (S ≤ w2.heap.size) := by rw [HS.out]; exact BS.out.size
        have EA : Hid (∀ wz, Below w2.heap.size w2 wz → EvR B wz a l ∧ EvR B wz b m ∧ Below S w wz) := fun wz hz => by
          have h := BS.out.trans (hz.mono HS2.out)
          exact ⟨HA.out.later h (by rw [HS.out]; exact HBB.out), HB.out.later h (by rw [HS.out]; exact HBB.out), h⟩
        have LE : Hid (n = l.length ∧ M = m.length) := ⟨HN.out, HM.out⟩
        have ED : Hid (∀ wz (x : Option Addr) (d : List Al.Ev), d.length = 0 → EvR B wz x d) := fun wz x d h => ev_empty h
        obtain ⟨G, hG⟩ : ∃ G, G = (Al.prs (Al.mt 0 0 (l.drop T) (m.drop T))).length := ⟨_, rfl⟩
        have HG := hidA hG
        clear hG k1 k4
        go_upto_region 10 with fail
        go_cut [44, 45, 46] from 38 to 47 (fun s44 s45 s46 wx => s45 = .int .i64 (G : Int) ∧ s46 = .int .i64 0 ∧ ∃ a2 c2, s44 = .slice a2 G c2 ∧ Hid (RowAt wx w2.heap.size a2 (Al.prs (Al.mt 0 0 (l.drop T) (m.drop T))) ∧ Below w2.heap.size w2 wx))
        case first =>
          have MQ : Hid (∀ (wz : World) (x y : Option Addr) (cx cy : Nat), Below w2.heap.size w2 wz → EvR B wz x (l.drop T) → EvR B wz y (m.drop T) → M - T ≤ cy → Calls Tryd.prog 37 #[.slice x (n - T) cx, .slice y (M - T) cy] wz fun e w' => ∃ a2 c2, e = .returned (.slice a2 G c2) ∧ RowAt w' w2.heap.size a2 (Al.prs (Al.mt 0 0 (l.drop T) (m.drop T))) ∧ Below w2.heap.size w2 w') := fun wz x y cx cy hz hx hy hc =>
            (HMD.out wz x y cx cy (EA.out wz hz).2.2 hx hy hc).mono fun e w' h => by
              obtain ⟨v, e1, e2, e3⟩ := h
              obtain ⟨a2, c2, e4, r⟩ := e2.at
              refine ⟨a2, c2, by rw [e1, e4, HG.out], fun hp => ?_, hz.trans (e3.mono hz.size)⟩
              obtain ⟨g, q1, q2, q3, q4⟩ := r hp
              exact ⟨g, q1, Nat.le_trans hz.size q2, q3, q4⟩
          obtain ⟨XA, hsa, hra⟩ := slA Tryd.underlying22 (by kernel_rfl) hv vs1 a HTC.out.1 HTC.out.2.2.1 (P := Tryd.prog)
          obtain ⟨XB, hsb, hrb⟩ := slA Tryd.underlying22 (by kernel_rfl) hv vs1 b HTC.out.2.1 HTC.out.2.2.2.1 (P := Tryd.prog)
          have EX : Hid (∀ wz, Below w2.heap.size w2 wz → EvR B wz XA (l.drop T) ∧ EvR B wz XB (m.drop T)) := fun wz hz => ⟨hra B wz l HN.out.symm (EA.out wz hz).1, hrb B wz m HM.out.symm (EA.out wz hz).2.1⟩
          have HC3 : Hid (M - T ≤ cb - T) := Nat.sub_le_sub_right HTC.out.2.2.2.1 T
          clear hra hrb k2 k5 k3
          go_region_with (first
            | (go_at_call 37; refine Calls.mono (MQ.out _ _ _ _ _ (by go_grown) (EX.out _ (by go_grown)).1 (EX.out _ (by go_grown)).2 HC3.out) ?_; rintro e5 w5 ⟨a2, c2, rfl, hh⟩; have H5 := hidA hh; clear hh))
          all_goals
            go_wp2_with fail
            go_meet
            exact ⟨rfl, rfl, _, _, rfl, H5.out⟩
        case rest =>
          obtain ⟨rfl, rfl, a2, c2, rfl, RW⟩ := hcut
          generalize u9 = v0 at *
          have OW0 : Hid (OwP wc S 64 v0 (Al.prs (Al.same T) ++ (Al.far T l m).take 0)) := by
            rw [List.take_zero, List.append_nil]
            exact RR.out.1.later RW.out.2
          have RNE : Hid (∀ g, w2.heap.size ≤ g → some g ≠ v0.ownBlock) := fun g hg => own_ne RR.out.1 hg
          have GT := hidA (mch_g LB.out HG.out HTC.out.1 HTC.out.2.2.2.2.1)
          have BSC : Hid (Below S w wc) := BS.out.trans (RW.out.2.mono HS2.out)
          have HSC : Hid (S ≤ wc.heap.size) := by rw [HS.out]; exact BSC.out.size
          have ZC : Hid (G ≤ 100) := by rw [HG.out]; exact LB.out
          have FGG : Hid (∀ k, k < G → ∃ x y X Y : Nat, (Al.prs (Al.mt 0 0 (l.drop T) (m.drop T)))[k]? = some ((x : Int), (y : Int)) ∧ (Al.far T l m).take (k + 1) = (Al.far T l m).take k ++ [((X : Int), (Y : Int))] ∧ wrap64 ((T : Int) + (x : Int)) = (X : Int) ∧ wrap64 ((T : Int) + (y : Int)) = (Y : Int)) := fun k hk => FG.out k (by rw [← HG.out]; exact hk)
          have FALL : Hid (Al.prs (Al.same T) ++ (Al.far T l m).take G = Al.prs (Al.mat l m L)) := by
            rw [← HF.out, List.take_of_length_le (by rw [FL.out, ← HG.out]; exact Nat.le_refl _)]
            exact hidA rfl
          clear RR dk HA HB EA ED HMD
          go_wp2_with fail
          go_loopg [9, 46] G (fun gk y9 y46 wr => ∃ k : Nat, k + gk = G ∧ y46 = .int .i64 k ∧ Hid (OwP wr S 64 y9 (Al.prs (Al.same T) ++ (Al.far T l m).take k) ∧ GwA wc v0 y9 wr ∧ Below S wc wr))
          case atStart => exact ⟨0, by omega, rfl, OW0.out, GwA.refl _ _, Below.refl _ _⟩
          case round =>
            obtain ⟨k, hk, rfl, QR⟩ := hrel
            rcases gk with _ | gk
            · obtain rfl : G = k := by omega
              have dk : decide ((G : Int) < (G : Int)) = false := decide_eq_false (Int.lt_irrefl _)
              have FIN : Hid (OwP wr S 64 u9 (Al.prs (Al.mat l m L)) ∧ Below S w wr) := ⟨by rw [← FALL.out]; exact QR.out.1, BSC.out.trans QR.out.2.2⟩
              go_wp2_with fail
              go_ret2
              exact ⟨_, rfl, FIN.out⟩
            · obtain ⟨k6, dk, dk2, hkG, hk3⟩ := mch_k hk
              obtain ⟨x, y, X, Y, hx, ht, ex, ey⟩ := FGG.out k hkG
              obtain ⟨g2, rfl, hg1, hg2, cs⟩ := RW.out.1 (by rw [← HG.out]; exact Nat.lt_of_le_of_lt (Nat.zero_le k) hkG)
              have KP := QR.out.2.1.keep hg2 (RNE.out g2 hg1)
              have cc := (cs k _ hx).of KP.1
              have a0 : wr.cell? ⟨g2, k * 2, none⟩ = some (.int .i64 (x : Int)) := cc.1
              have a1 : wr.cell? ⟨g2, k * 2 + 1, none⟩ = some (.int .i64 (y : Int)) := cc.2
              obtain ⟨W3, hW3⟩ : ∃ W3, W3 = wr.alloc (.cells #[.int .i64 (x : Int), .int .i64 (y : Int)] 64) := ⟨_, rfl⟩
              obtain ⟨q, hq⟩ : ∃ q, q = wr.heap.size := ⟨_, rfl⟩
              obtain ⟨acc, hacc⟩ : ∃ acc, acc = Al.prs (Al.same T) ++ (Al.far T l m).take k := ⟨_, rfl⟩
              obtain ⟨LN, hLN⟩ : ∃ LN, LN = acc.length := ⟨_, rfl⟩
              have hLN2 : LN ≤ 1000 := by
                rw [hLN, hacc, List.length_append, Al.prs_len, Al.same_len]
                refine Nat.le_trans (Nat.add_le_add_left (List.length_take_le _ _) T) (GT.out k (Nat.le_of_lt hkG))
              have W3C : W3.cell? ⟨q, 0, none⟩ = some (.int .i64 (x : Int)) ∧ W3.cell? ⟨q, 1, none⟩ = some (.int .i64 (y : Int)) := by rw [hW3, hq]; exact box2A _ _ _ _
              have c0 := W3C.1
              have c1 := W3C.2
              have W3B : Below wr.heap.size wr W3 := by rw [hW3]; exact (Below.refl _ _).alloc (Nat.le_refl _) _
              have WS : S ≤ wr.heap.size := Nat.le_trans HSC.out QR.out.2.2.size
              have O3 : Hid (OwP W3 S 64 u9 acc) := by
                have := QR.out.1.later W3B
                rw [hacc]
                exact this
              have OR3 : Hid (W3.ownsRow S 64 2 u9 LN (prC acc)) := by
                rw [hLN]
                exact O3.out
              have HS3 : Hid (S ≤ W3.heap.size) := Nat.le_trans WS W3B.size
              have H63 := hidA (own63b (k := LN) hLN2)
              have ONE := hidA (prC_one ((X : Int), (Y : Int)))
              have FIN : Hid (∀ v8 w8, w8.ownsRow S 64 2 v8 (LN + 1) (prC acc ++ [.int .i64 (X : Int), .int .i64 (Y : Int)]) → (W3.alloc (.cells #[.int .i64 (X : Int), .int .i64 (Y : Int)] 64)).grownBy w8 u9.ownBlock → (v8.ownBlock = u9.ownBlock ∨ ∃ g, v8.ownBlock = some g ∧ W3.heap.size + 1 ≤ g) → OwP w8 S 64 v8 (Al.prs (Al.same T) ++ (Al.far T l m).take (k + 1)) ∧ GwA wc v0 v8 w8 ∧ Below S wc w8) := fun v8 w8 h8 g8 o8 => by
                have h := OwP.tell (e := ((X : Int), (Y : Int))) O3.out HS3.out (by rw [← hLN]; exact h8) g8 o8
                refine ⟨?_, ?_, ?_⟩
                · rw [ht, ← List.append_assoc, ← hacc]
                  exact h.1
                · have := QR.out.2.1.later W3B
                  exact this.trans h.2.2
                · exact QR.out.2.2.trans ((W3B.mono WS).trans h.2.1)
              clear W3C W3B WS hacc hLN hLN2 hx ht KP cc cs hg1 hg2
              go_upto_region 13 with fail
              rw [← hW3, ← hq]
              clear hW3 hq a0 a1
              go_wp2_with (at_builtin; refine wpList_append_tolA rfl _ _ 30 rfl S 64 i0 (.agg #[.int .i64 0, .int .i64 0]) 2 16 Tryd.underlying30 hi zi0 zi1 zi2 rfl (by decide) _ _ _ rfl (ownA OR3.out ((Below.refl _ _).alloc (Nat.le_refl _) _)) ⟨W3.heap.size, 0, none⟩ 1 1 [.int .i64 (X : Int), .int .i64 (Y : Int)] rfl rfl (two2 _ _ _ _) ONE.out H63.out.1 H63.out.2 (by simp; exact Nat.le_trans HS3.out (Nat.le_succ _)) (by decide) ?_)
              intro v8 w8 h8 g8 o8
              have F8 := hidA (FIN.out v8 w8 h8 g8 (by simpa using o8))
              clear h8 g8 o8
              go_wp2_with fail
              go_roundg gk
              case measure => omega
              case rel => exact ⟨k + 1, hk3, congrArg _ (wrK k (Nat.le_trans (Nat.le_of_lt hkG) (Nat.le_trans ZC.out (by decide)))), F8⟩
      · have FIN : Hid (OwP w2 S 64 u9 (Al.prs (Al.mat l m L)) ∧ Below S w w2) := ⟨by rw [← HMC.out rfl]; exact RR.out.1, BS.out⟩
        clear HMF HMC HAV
        go_wp2_with fail
        go_ret2
        exact ⟨_, rfl, FIN.out⟩
    · obtain ⟨k6, dk, dk2, hkT, hk3⟩ := mch_k hk
      have OR7 : Hid (wr.ownsRow S 64 2 u9 (Al.same k).length (prC (Al.prs (Al.same k)))) := by
        have := RR.out.1
        unfold OwP at this
        rw [Al.prs_len] at this
        exact this
      rw [Al.same_len] at OR7
      have H63 := hidA (own63b (k := k) (Nat.le_trans (Nat.le_of_lt hkT) (Nat.le_trans HTC.out.1 (Nat.le_trans HTC.out.2.2.2.2.1 (by decide)))))
      have ONE := hidA (prC_one ((k : Int), (k : Int)))
      have HS7 : Hid (S ≤ wr.heap.size) := by rw [HS.out]; exact BS.out.size
      have FIN : Hid (∀ v8 w8, w8.ownsRow S 64 2 v8 (k + 1) (prC (Al.prs (Al.same k)) ++ [.int .i64 (k : Int), .int .i64 (k : Int)]) → (wr.alloc (.cells #[.int .i64 (k : Int), .int .i64 (k : Int)] 64)).grownBy w8 u9.ownBlock → OwP w8 S 64 v8 (Al.prs (Al.same (k + 1))) ∧ Below S w1 w8) := fun v8 w8 h8 g8 => by
        have h := OwP.grown (e := ((k : Int), (k : Int))) RR.out.1 HS7.out (by rw [Al.prs_len, Al.same_len]; exact h8) g8
        refine ⟨?_, RR.out.2.trans h.2⟩
        rw [Al.same_succ, Al.prs_app]
        exact h.1
      go_wp2_with (at_builtin; refine wpList_append_tolA rfl _ _ 30 rfl S 64 i0 (.agg #[.int .i64 0, .int .i64 0]) 2 16 Tryd.underlying30 hi zi0 zi1 zi2 rfl (by decide) _ _ _ rfl (ownA OR7.out ((Below.refl _ _).alloc (Nat.le_refl _) _)) ⟨wr.heap.size, 0, none⟩ 1 1 [.int .i64 (k : Int), .int .i64 (k : Int)] rfl rfl (two2 _ _ _ _) ONE.out H63.out.1 H63.out.2 (by simp; exact Nat.le_trans HS7.out (Nat.le_succ _)) (by decide) ?_)
      intro v8 w8 h8 g8 o8
      have F8 := hidA (FIN.out v8 w8 h8 g8)
      clear h8 g8 o8
      go_wp2_with fail
      go_roundg gk
      case measure => omega
      case rel => exact ⟨k + 1, hk3, congrArg _ (wrK k (Nat.le_trans (Nat.le_of_lt hkT) (Nat.le_trans HTC.out.1 (Nat.le_trans HTC.out.2.2.2.2.1 (by decide))))), F8⟩
end Go.Proofs.YthglhcabdadlpaaDoor
