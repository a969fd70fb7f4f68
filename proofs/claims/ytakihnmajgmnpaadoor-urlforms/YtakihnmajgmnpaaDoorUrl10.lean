/-
  A parsed URL's print is parsed to itself, also with something behind a number sign: plain lists; nothing runs here.
-/
import Derived.Test.YtakihnmajgmnpaaDoorUrl9
namespace Go.Proofs.YtakihnmajgmnpaaDoor
set_option linter.unusedVariables false
set_option linter.unusedSimpArgs false
set_option maxRecDepth 20000

/-- A URL as Parse tells it. -/
structure UL.Norm (u : UL) : Prop where
  fine : u.Fine
  pathOk : PathOk u.path
  queryOk : QueryOk u.query
  portOk : u.port ≤ 65535
  portOwn : u.port ≠ ownI u.sch
theorem ownI_pos (s : List Int) : 0 < ownI s := by unfold ownI; split <;> decide
theorem parseI_norm {l : List Int} (hB : Byt l) {u : UL} (h : parseI l = some u) : u.Norm := by
  have hf := parseI_fine hB h
  unfold parseI at h
  rw [Option.bind_eq_some_iff] at h
  obtain ⟨⟨sch, r⟩, hs, h⟩ := h
  have hsr := schemeI_is hs
  have hrB : Byt r := by
    have ht : Byt (trimI l) := fun x hx => hB x ((trimI_sub l).subset hx)
    rcases hsr with ⟨_, rfl⟩ | ⟨_, rfl⟩ <;> exact byt_drop ht _
  unfold hostI at h
  simp only at h
  split at h
  · rw [Option.bind_eq_some_iff] at h
    obtain ⟨⟨port, rest2⟩, hp, h⟩ := h
    simp only at h
    have hpr : port ≤ 65535 ∧ port ≠ ownI sch ∧ Byt rest2 := by
      have hrb : Byt (behind [58, 47, 63, 35] r) := behind_byt hrB
      have hop := ownI_pos sch
      unfold portI at hp
      split at hp
      · rw [Option.bind_eq_some_iff] at hp
        obtain ⟨n, hn, hp⟩ := hp
        split at hp
        · cases hp
        · rename_i hbig
          injection hp with hp
          injection hp with hp1 hp2
          subst hp2
          refine ⟨?_, ?_, behind_byt (byt_drop hrb 1)⟩
          · rw [← hp1]; split <;> omega
          · rw [← hp1]; split
            · omega
            · assumption
      · injection hp with hp
        injection hp with hp1 hp2
        subst hp1 hp2
        exact ⟨by omega, by omega, hrb⟩
    unfold restI at h
    simp only at h
    split at h
    · cases h
    · cases h
      exact ⟨hf, dotsI_ok (ahead_byt (ahead_byt hpr.2.2)), queryI_ok _ (behind_byt (ahead_byt hpr.2.2)), hpr.1, hpr.2.1⟩
  · cases h
/-! ### reading the print -/
theorem ahead_stop {st p : List Int} {x : Int} {r : List Int} (hp : ∀ y ∈ p, st.contains y = false) (hx : st.contains x = true) : ahead st (p ++ x :: r) = p ∧ behind st (p ++ x :: r) = x :: r := by
  induction p with
  | nil =>
    unfold ahead behind
    rw [List.nil_append, List.takeWhile_cons_of_neg (by rw [hx]; simp), List.dropWhile_cons_of_neg (by rw [hx]; simp)]
    exact ⟨rfl, rfl⟩
  | cons y p ih =>
    have h0 := hp y (.head _)
    have := ih (fun z hz => hp z (.tail _ hz))
    unfold ahead behind at *
    rw [List.cons_append, List.takeWhile_cons_of_pos (by rw [h0]; rfl), List.dropWhile_cons_of_pos (by rw [h0]; rfl), this.1, this.2]
    exact ⟨rfl, rfl⟩
theorem ahead_full {st p : List Int} (hp : ∀ y ∈ p, st.contains y = false) : ahead st p = p ∧ behind st p = [] := by
  induction p with
  | nil => exact ⟨rfl, rfl⟩
  | cons y p ih =>
    have h0 := hp y (.head _)
    have := ih (fun z hz => hp z (.tail _ hz))
    unfold ahead behind at *
    rw [List.takeWhile_cons_of_pos (by rw [h0]; rfl), List.dropWhile_cons_of_pos (by rw [h0]; rfl), this.1, this.2]
    exact ⟨rfl, rfl⟩
/-- Nothing, or a number sign and what is behind it. -/
def Frag (f : List Int) : Prop := f = [] ∨ ∃ r, f = 35 :: r
theorem HostOk.mem {h : List Int} (hh : HostOk h) : ∀ x ∈ h, HB x := by
  intro x hx
  obtain ⟨k, hk, e⟩ := List.getElem_of_mem hx
  have := (hh.2.2.2.2 k hk).1
  rw [List.getD_eq_getElem?_getD, List.getElem?_eq_getElem hk, Option.getD_some, e] at this
  exact this
theorem HostOk.low {h : List Int} (hh : HostOk h) : lowL h = h := by
  unfold lowL
  conv => rhs; rw [← List.map_id h]
  apply List.map_congr_left
  intro x hx
  have := hh.mem x hx
  unfold HB at this
  show lowI x = x
  unfold lowI
  rw [if_neg (by omega)]
def portT (u : UL) : List Int := if 0 < u.port then 58 :: digs u.port.toNat else []
theorem printI_parts (u : UL) : printI u = u.sch ++ ([58, 47, 47] ++ (u.host ++ (portT u ++ (u.path ++ u.query)))) := by
  unfold printI originI portT
  simp [List.append_assoc]
theorem printI_ascii {u : UL} (h : u.Norm) : ∀ x ∈ printI u, 33 ≤ x ∧ x ≤ 126 := by
  intro x hx
  rw [printI_parts] at hx
  simp only [List.mem_append] at hx
  rcases hx with hx | hx | hx | hx | hx | hx
  · rcases h.fine.sch with e | e <;> rw [e] at hx
    · simp [httpI] at hx; omega
    · simp [httpsI] at hx; omega
  · simp at hx; omega
  · have := h.fine.host.mem x hx; unfold HB at this; omega
  · unfold portT at hx
    split at hx
    · rcases List.mem_cons.1 hx with rfl | hx
      · omega
      · have := digs_dig _ x hx; omega
    · cases hx
  · have := h.pathOk.plain.rng x hx; omega
  · rcases h.queryOk with e | ⟨r, _, e, hp⟩ <;> rw [e] at hx
    · cases hx
    · rcases List.mem_cons.1 hx with rfl | hx
      · omega
      · have := hp.rng x hx; omega
theorem printI_head (u : UL) (h : u.Norm) : ∃ r, printI u = 104 :: r := by
  rw [printI_parts]
  rcases h.fine.sch with e | e <;> rw [e]
  · exact ⟨_, rfl⟩
  · exact ⟨_, rfl⟩
/-- Blanks behind a number sign alone are trimmed. -/
theorem trim_frag {p f : List Int} (hp : ∀ x ∈ p, 33 ≤ x ∧ x ≤ 126) (hne : p ≠ []) (hf : Frag f) : ∃ f', Frag f' ∧ trimI (p ++ f) = p ++ f' := by
  have hfirst : (p ++ f).dropWhile blank = p ++ f := by
    obtain ⟨x, r, rfl⟩ := List.exists_cons_of_ne_nil hne
    have := hp x (.head _)
    rw [List.cons_append, List.dropWhile_cons_of_neg (by unfold blank; simp; omega)]
  unfold trimI
  rw [hfirst, List.reverse_append, List.dropWhile_append]
  have hpr : p.reverse.dropWhile blank = p.reverse := by
    have hne2 : p.reverse ≠ [] := by simpa using hne
    obtain ⟨x, r, e⟩ := List.exists_cons_of_ne_nil hne2
    have hx : x ∈ p := by rw [← List.mem_reverse, e]; exact .head _
    have := hp x hx
    rw [e, List.dropWhile_cons_of_neg (by unfold blank; simp; omega)]
  rcases hf with rfl | ⟨r, rfl⟩
  · refine ⟨[], .inl rfl, ?_⟩
    simp [hpr]
  · have hx : ∃ g, ((35 :: r).reverse.dropWhile blank) = g ++ [35] := by
      rw [List.reverse_cons, List.dropWhile_append]
      split
      · exact ⟨[], by rw [List.dropWhile_cons_of_neg (by decide)]; rfl⟩
      · exact ⟨_, rfl⟩
    obtain ⟨g, hg⟩ := hx
    refine ⟨35 :: g.reverse, .inr ⟨_, rfl⟩, ?_⟩
    rw [hg]
    simp
theorem host_stops {h : List Int} (hh : HostOk h) : ∀ y ∈ h, ([58, 47, 63, 35] : List Int).contains y = false := by
  intro y hy
  have := hh.mem y hy
  unfold HB at this
  apply contains_no
  intro k hk e
  match k, hk, e with
  | 0, _, e => simp at e; omega
  | 1, _, e => simp at e; omega
  | 2, _, e => simp at e; omega
  | 3, _, e => simp at e; omega
  | (k + 4), hk, _ => simp only [List.length_cons, List.length_nil] at hk; omega
theorem digs_short {n : Nat} (h : n < 100000) : (digs n).length ≤ 5 := by
  have key : ∀ f k m, m < 10 ^ (k + 1) → (digF f m).length ≤ k + 1 := by
    intro f
    induction f with
    | zero => intro k m _; simp [digF]
    | succ f ih =>
      intro k m hm
      simp only [digF]
      split
      · simp
      · rename_i h10
        cases k with
        | zero => simp at hm; omega
        | succ k =>
          have := ih k (m / 10) (by rw [Nat.pow_succ] at hm; omega)
          simp; omega
  exact key 20 4 n (by omega)
theorem portI_print {u : UL} (h : u.Norm) {t : List Int} (ht : ∃ r, t = 47 :: r) : portI u.sch (portT u ++ t) = some (u.port, t) := by
  obtain ⟨r, rfl⟩ := ht
  have hp0 := h.fine.port0
  have hp1 := h.portOk
  unfold portT
  by_cases h0 : 0 < u.port
  · rw [if_pos h0]
    have hb : begI [58] ((58 :: digs u.port.toNat) ++ 47 :: r) = true := by rw [begI_iff]; rfl
    have hdn : ∀ y ∈ digs u.port.toNat, ([47, 63, 35] : List Int).contains y = false := by
      intro y hy
      have := digs_dig _ y hy
      apply contains_no
      intro k hk e
      match k, hk, e with
      | 0, _, e => simp at e; omega
      | 1, _, e => simp at e; omega
      | 2, _, e => simp at e; omega
      | (k + 3), hk, _ => simp only [List.length_cons, List.length_nil] at hk; omega
    have hst := ahead_stop (r := r) hdn (show ([47, 63, 35] : List Int).contains 47 = true by decide)
    have hd1 : ((58 :: digs u.port.toNat) ++ 47 :: r).drop 1 = digs u.port.toNat ++ 47 :: r := rfl
    unfold portI
    rw [if_pos hb, hd1, hst.1, hst.2]
    have hlen := digs_len u.port.toNat
    have hsh := digs_short (n := u.port.toNat) (by omega)
    have hfig : figI (digs u.port.toNat) 1 5 = some u.port := by
      unfold figI
      rw [if_pos ⟨by omega, by omega, digs_dig _⟩, fig_digs (by omega)]
      congr 1; omega
    rw [hfig]
    show (if 65535 < u.port then none else some (if u.port = ownI u.sch then 0 else u.port, 47 :: r)) = _
    rw [if_neg (by omega), if_neg h.portOwn]
  · rw [if_neg h0, List.nil_append]
    have hz : u.port = 0 := by omega
    unfold portI
    rw [if_neg (by rw [begI_iff]; simp), hz]
theorem restI_print {u : UL} (h : u.Norm) {f : List Int} (hf : Frag f) : restI u.sch u.host u.port (u.path ++ (u.query ++ f)) = some u := by
  have hpp := h.pathOk.plain.rng
  have hq35 : ∀ y ∈ u.path ++ u.query, ([35] : List Int).contains y = false := by
    intro y hy
    have : y ≠ 35 := by
      rcases List.mem_append.1 hy with hy | hy
      · have := hpp y hy; omega
      · rcases h.queryOk with e | ⟨r, _, e, hp⟩ <;> rw [e] at hy
        · cases hy
        · rcases List.mem_cons.1 hy with rfl | hy
          · omega
          · have := hp.rng y hy; omega
    simpa using this
  have h1 : ahead [35] (u.path ++ (u.query ++ f)) = u.path ++ u.query := by
    rw [← List.append_assoc]
    rcases hf with rfl | ⟨r, rfl⟩
    · rw [List.append_nil]; exact (ahead_full hq35).1
    · exact (ahead_stop hq35 (by decide)).1
  have hp63 : ∀ y ∈ u.path, ([63] : List Int).contains y = false := by
    intro y hy
    have := hpp y hy
    have h2 : y ≠ 63 := by omega
    simpa using h2
  have h2 : ahead [63] (u.path ++ u.query) = u.path ∧ behind [63] (u.path ++ u.query) = u.query := by
    rcases h.queryOk with e | ⟨r, _, e, hp⟩ <;> rw [e]
    · rw [List.append_nil]; exact ahead_full hp63
    · exact ahead_stop hp63 (by decide)
  unfold restI
  rw [h1]
  simp only
  rw [h2.1, h2.2, dotsI_same h.pathOk, queryI_same h.queryOk]
  have hs := h.fine.short
  obtain ⟨a, b, c, d, e⟩ := u
  simp only at hs ⊢
  rw [if_neg (by omega)]
theorem parseI_print {u : UL} (h : u.Norm) {f : List Int} (hf : Frag f) : parseI (printI u ++ f) = some u := by
  obtain ⟨r0, hr0⟩ := printI_head u h
  obtain ⟨f', hf', ht⟩ := trim_frag (printI_ascii h) (by rw [hr0]; simp) hf
  unfold parseI
  rw [ht]
  have hsch : schemeI (printI u ++ f') = some (u.sch, u.host ++ (portT u ++ (u.path ++ (u.query ++ f')))) := by
    rw [printI_parts]
    unfold schemeI
    rcases h.fine.sch with e | e <;> rw [e]
    · have hb : begI (httpI ++ [58, 47, 47]) (lowL (httpI ++ ([58, 47, 47] ++ (u.host ++ (portT u ++ (u.path ++ u.query)))) ++ f')) = true := by rw [begI_iff]; rfl
      rw [if_pos hb]
      simp [httpI, List.append_assoc]
    · have hb1 : begI (httpI ++ [58, 47, 47]) (lowL (httpsI ++ ([58, 47, 47] ++ (u.host ++ (portT u ++ (u.path ++ u.query)))) ++ f')) = false := by
        rw [← Bool.not_eq_true, begI_iff]
        intro hx
        have := congrArg (fun l => l.getD 4 0) hx
        simp [httpI, httpsI, lowL, lowI] at this
      have hb2 : begI (httpsI ++ [58, 47, 47]) (lowL (httpsI ++ ([58, 47, 47] ++ (u.host ++ (portT u ++ (u.path ++ u.query)))) ++ f')) = true := by rw [begI_iff]; rfl
      rw [if_neg (by rw [hb1]; simp), if_pos hb2]
      simp [httpsI, List.append_assoc]
  rw [hsch]
  show hostI u.sch _ = some u
  obtain ⟨pr, hpr⟩ := h.pathOk.head
  have hnext : ∃ x q, portT u ++ (u.path ++ (u.query ++ f')) = x :: q ∧ ([58, 47, 63, 35] : List Int).contains x = true := by
    unfold portT
    split
    · exact ⟨58, _, rfl, by decide⟩
    · rw [hpr]; exact ⟨47, _, rfl, by decide⟩
  obtain ⟨x, q, hxq, hxs⟩ := hnext
  have hst : ahead [58, 47, 63, 35] (u.host ++ (portT u ++ (u.path ++ (u.query ++ f')))) = u.host ∧ behind [58, 47, 63, 35] (u.host ++ (portT u ++ (u.path ++ (u.query ++ f')))) = portT u ++ (u.path ++ (u.query ++ f')) := by
    rw [hxq]; exact ahead_stop (host_stops h.fine.host) hxs
  unfold hostI
  rw [hst.1, hst.2, h.fine.host.low, if_pos h.fine.host, portI_print h (by rw [hpr]; exact ⟨_, rfl⟩)]
  exact restI_print h hf'
/-- What is joined of its own path and query is the URL again, if its path does not begin as a host would. -/
theorem joinI_self {u : UL} (h : u.Norm) (h2 : u.path.getD 1 0 ≠ 47) : joinI u (u.path ++ u.query) = some u := by
  obtain ⟨pr, hpr⟩ := h.pathOk.head
  have hasc : ∀ x ∈ u.path ++ u.query, 33 ≤ x ∧ x ≤ 126 := fun x hx => printI_ascii h x (by
    rw [printI_parts]
    simp only [List.mem_append] at hx ⊢
    rcases hx with hx | hx
    · exact .inr (.inr (.inr (.inr (.inl hx))))
    · exact .inr (.inr (.inr (.inr (.inr hx)))))
  obtain ⟨f', hf', ht⟩ := trim_frag (f := []) hasc (by rw [hpr]; simp) (.inl rfl)
  have ht2 : trimI (u.path ++ u.query) = u.path ++ u.query := by
    have h1 := trimI_twice (u.path ++ u.query)
    rw [List.append_nil] at ht
    have hl := (trimI_sub (u.path ++ u.query)).length_le
    rw [ht, List.length_append] at hl
    have : f' = [] := List.eq_nil_of_length_eq_zero (by omega)
    rw [ht, this, List.append_nil]
  unfold joinI
  rw [ht2]
  have hb1 : begI [47, 47] (u.path ++ u.query) = false := by
    rw [← Bool.not_eq_true, begI_iff]
    intro hx
    rw [hpr] at hx h2
    cases pr with
    | nil =>
      rcases h.queryOk with e | ⟨r, _, e, hp⟩
      · rw [e] at hx; simp at hx
      · rw [e] at hx; simp at hx
    | cons y r =>
      simp at hx h2
      exact h2 hx
  have hb2 : begI [47] (u.path ++ u.query) = true := by rw [begI_iff, hpr]; rfl
  rw [if_neg (by rw [hb1]; simp), if_pos hb2]
  have := parseI_print h (f := []) (.inl rfl)
  rw [List.append_nil] at this
  unfold printI at this
  rw [List.append_assoc] at this
  exact this
end Go.Proofs.YtakihnmajgmnpaaDoor
