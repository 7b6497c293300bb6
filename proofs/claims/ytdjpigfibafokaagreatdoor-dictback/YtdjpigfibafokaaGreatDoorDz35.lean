/- batch.Apply, as a contract. -/
import Derived.Test.YtdjpigfibafokaaGreatDoorDz01
import Derived.Test.YtdjpigfibafokaaGreatDoorDz34
import Derived.Test.YtdjpigfibafokaaGreatDoorDz33
import Derived.Test.YtdjpigfibafokaaGreatDoorDz26
import Derived.Test.YtdjpigfibafokaaGreatDoorDz24
namespace Go.Proofs.YtdjpigfibafokaaGreatDoor
variable {S fr:List Nat}
variable {T:Tre}
variable {b d g gs h room:Nat}
variable {cs:Lz}
variable {lv:Value}
variable {q:Int}
variable {w w0 w4 w5:World}
set_option maxHeartbeats 4000000
set_option maxRecDepth 20000
open Go.RowKit

theorem grw_from {l:List Wt} {ps ps':List Pn} (g:Grw cs d h l ps q ps'):∀n∈ps',n∈ps∨n.inn=true∨n.w∈l:=by
  induction g with
  | none=>exact fun n h=>.inl h
  | gone _ _=>exact fun n h=>.inl h
  | same _ _ _ _=>exact fun n h=>.inl h
  | leaf _ _ _=>
    intro n h;rcases List.mem_append.1 h with h | h
    · exact .inl h
    · obtain rfl:n=pnL _:=by simpa using h
      exact .inr (.inr (by simp [pnL]))
  | stay _ _ _ _ i1 i2=>
    intro n h;rcases i2 n h with h | h | h
    · rcases i1 n h with h | h | h
      · exact .inl h
      · exact .inr (.inl h)
      · exact .inr (.inr (List.mem_filter.1 h).1)
    · exact .inr (.inl h)
    · exact .inr (.inr (List.mem_filter.1 h).1)
  | @join d h l ps p1 p2 a b _ _ _ _ _ i1 i2=>
    intro n h;have h:n∈p2∨n.inn=true:=by
      unfold jnP at h;split at h
      · exact .inl h
      · split at h
        · exact .inl h
        · rcases List.mem_append.1 h with h | h
          · exact .inl h
          · obtain rfl:n=pnI d a b:=by simpa using h
            exact .inr rfl
    rcases h with h | h
    · rcases i2 n h with h | h | h
      · rcases i1 n h with h | h | h
        · exact .inl h
        · exact .inr (.inl h)
        · exact .inr (.inr (List.mem_filter.1 h).1)
      · exact .inr (.inl h)
      · exact .inr (.inr (List.mem_filter.1 h).1)
    · exact .inr (.inl h)

theorem bat_same (W:Wf cs []) {h:Nat} {T:Tre} {ks:List Wt} {ps:List Pn} {G:Gt} (r:Rt cs h T) (g:GrOk cs 0 h T ks [] (h:Int) ps G):BatOk cs T.ents ks h h ps.length G.olds cs:=by
  obtain ⟨rfl,U,u1,u2⟩:=g.stays (by omega);have e:(h:Int).toNat=h:=by omega
  rw [e] at u1 u2;refine ⟨W,⟨U,u2,?_⟩,r.dp,fun i=>rfl,fun h T hT _=>hT,Nat.le_add_right _ _,Nat.le_add_right _ _,fun _=>rfl⟩;have:=g.ents;rw [u1] at this;exact this

def ApPost (w0:World) (S:List Nat) (g gs room:Nat) (cs:Lz) (fr:List Nat) (h:Nat) (T:Tre) (l:List Wt) (e:Ending) (w':World):Prop:=
  ∃(ks:List Wt) (q:Int) (ps:List Pn) (G:Gt) (top:Nat) (cs':Lz) (fr':List Nat),e=.returned (.tuple #[.int .i64 (top:Int),.int .i64 0])∧Hs w0 S w' g gs room cs' fr'∧Lat l ks∧GrOk cs 0 h T ks [] q ps G∧BatOk cs T.ents ks h top ps.length G.olds cs'∧(q=(h:Int)→cs'=cs∧fr'=fr)

theorem zero_plan:∀w,(zeroValue 279).run Tryz.prog w=.ok (.agg #[.pointer none,.slice none 0 0]) w:=zero_of_info (n:=2) (by kernel_rfl) |>.1

theorem nod_len {α:Type}:∀(ks l:List α),ks.Pairwise (· ≠ ·)→(∀x∈ks,x∈l)→ks.length≤l.length
  | [],l,_,_=>Nat.zero_le _
  | a::t,l,hp,hs=>by
    obtain ⟨s,r,rfl⟩:=List.append_of_mem (hs a (by simp));have hp:=List.pairwise_cons.1 hp;have:=nod_len t (s++r) hp.2 fun x hx=>by
      have h1:=hs x (List.mem_cons_of_mem _ hx);have h2:=hp.1 x hx;simp only [List.mem_append,List.mem_cons] at h1 ⊢;rcases h1 with q | q | q
      · exact .inl q
      · exact absurd q.symm h2
      · exact .inr q
    simp only [List.length_append,List.length_cons] at this ⊢;omega
theorem Lat.len {l r:List Wt} (h:Lat l r):r.length≤l.length:=nod_len r l (List.Pairwise.imp (fun {a b} q e=>by subst e;exact q.ne) h.ris) h.sub

structure Gw5 (w w5:World) (b g:Nat) (cs:Lz) (h:Nat) (T:Tre) (l ks:List Wt) (q:Int) (ps:List Pn) (lv:Value) (G:Gt):Prop where
  pr:PlR w5 b (.pointer (some ⟨g,0,none⟩)) ps lv
  bel:Kb w w5
  blo:w.heap.size≤b
  lo:∀x,lv.ownBlock=some x→w.heap.size≤x
  lat:Lat l ks
  few:ks.length≤l.length
  gr:GrOk cs 0 h T ks [] q ps G
  wr:∀n∈ps,n.inn=false→n.w∈l
theorem Gw5.grow {w6:World} {l ks:List Wt} {ps:List Pn} {G:Gt} (x:Gw5 w w5 b g cs h T l ks q ps lv G) (hb:Kb w5 w6):Gw5 w w6 b g cs h T l ks q ps lv G:=⟨x.pr.grow hb,grow_trans x.bel hb,x.blo,x.lo,x.lat,x.few,x.gr,x.wr⟩
theorem Gw5.cnt {l ks:List Wt} {ps:List Pn} {G:Gt} (x:Gw5 w w5 b g cs h T l ks q ps lv G):ps.length≤257 * ks.length:=by
  have:=x.gr.cnt;simpa using this

theorem gpre_of (r:Rt cs h T) {l ks:List Wt} (hl:Lat l ks) (ok:∀x∈l,WtOk x) (ht:l.any tooL=false):GPre cs 0 h T ks:=by
  refine ⟨r.tree,r.dp,hl.ris,fun x hx=>?_,fun a _ b _ j hj=>by omega,by omega⟩;have hx:=hl.sub x hx;refine ⟨(ok x hx).hk,(ok x hx).hb,fun hg=>?_⟩;have:=List.any_eq_false.1 ht x hx;simp only [tooL,hg,Bool.not_false,Bool.true_and,decide_eq_true_eq] at this;omega

theorem gw5_any (W:Wf cs []) (V:∀w',Kb w w'→Vw w' (.pointer (some ⟨g,0,none⟩)) true (cot cs) (cat cs)) {h:Nat} {T:Tre} (r:Rt cs h T) {v v1:Value} {l ks:List Wt} (hv:WrAt w v l) (hn:l.length≤64) (ht:l.any tooL=false) (hb:Kb w w4) (hlo:w.heap.size≤b) (B:Blk w4 b 279 #[.pointer (some ⟨g,0,none⟩),.slice none 0 0]) (hl:Lat l ks) (hfew:ks.length≤l.length) (hs:Lst w4 198 34 v1 ks.length (flatE encW ks)):
    Kc 196 #[.pointer (some ⟨b,0,none⟩),.int .i64 (h:Int),.int .i64 0,v1] w4 fun e w5=>∃q ps lv G,e=.returned (.int .i64 q)∧Gw5 w w5 b g cs h T l ks q ps lv G:=by
  have ok:∀x∈ks,WtOk x:=fun x hx=>hv.ok x (hl.sub x hx)
  have bel:∀w',Mod [b] w4 w'→Kb w w':=fun w' m=>hb.trans (m.below (fun k hk=>by simp at hk;omega) hb.size)
  have P:PlM w4 w4 b (.pointer (some ⟨g,0,none⟩)) [] (.slice none 0 0):=⟨B,World.ownsRow_nil _ _ _ _,fun n hn=>(by cases hn),Mod.refl _ _⟩;have p:=gpre_of r hl hv.ok ht;have hw:Kq [b] w4 fun w'=>WrAt w' v1 ks:=fun w' m=>wrAt_own (lst_mod hs m fun x hx hq=>by
    simp at hq;exact lst_blk_ne hs B (by decide) (by rw [← hq];exact hx)) ok fun x hx=>(hv.reads x (hl.sub x hx)).grow (bel w' m)
  have hk:ks.length≤64:=by omega
  refine (grow_any W (fun w' m=>V w' (bel w' m)) 256 0 rfl w4 _ [] h T ks v1 P p hw (by simp;omega) (by omega)).mono ?_;rintro e w5 ⟨q,ps,lv,rfl,gr,pm⟩;obtain ⟨G,hG⟩:=grw_ok W gr T p;refine ⟨q,ps,lv,G,rfl,pm.pr,bel w5 pm.mod,hlo,fun x hx=>?_,hl,hfew,hG,fun n hn hi=>?_⟩
  · have h1:=(pm.lst.lt x hx).1
    have h2:=hb.size;omega
  · rcases grw_from gr n hn with q | q | q
    · cases q
    · rw [hi] at q
      cases q
    · exact hl.sub _ q

structure Hd8 (w0 w8:World) (S:List Nat) (b g gs room:Nat) (cs:Lz) (fr:List Nat) (q:Int) (ps:List Pn) (lv:Value) (cs1:Lz):Prop where
  hm:HmOk cs (shL ps q) cs1
  hs:Hs w0 S w8 g gs room cs1 fr
  pr:PlR w8 b (.pointer (some ⟨g,0,none⟩)) ps lv
  ap:∀vp vf,Stm w8 g gs vp vf room cs1 fr→∀x,(x=b∨lv.ownBlock=some x)→x ∉ stB g gs vp vf cs1

theorem shL_len (ps:List Pn) (q:Int):(shL ps q).length≤2 * ps.length+1:=by
  have h1:=shN_len ps;have h2:(posP q).length≤1:=by unfold posP;split <;> simp
  rw [shL,List.length_append];omega

theorem hd8_any {w7:World} {l ks:List Wt} {ps:List Pn} {G:Gt} (H:Hs w0 S w g gs room cs fr) (hbd:∀i,own cs [] i≤1000000) (hn:l.length≤64) (x:Gw5 w w7 b g cs h T l ks q ps lv G) {a:Option Addr} {c:Nat} (hr:w7.ownsRow w.heap.size 3 1 (.slice a (shL ps q).length c) (shL ps q).length (nats (shL ps q))):
    Kc 200 #[.pointer (some ⟨g,0,none⟩),.slice a (shL ps q).length c] w7 fun e w8=>e=.returned (.slice none 0 0)∧∃cs1,Hd8 w0 w8 S b g gs room cs fr q ps lv cs1:=by
  have H7:=H.grow x.bel;have hsz:=x.bel.size;have hnot:∀vp vf,Stm w7 g gs vp vf room cs fr→∀y,w.heap.size≤y→y ∉ stB g gs vp vf cs:=fun vp vf s y hy hq=>by
    obtain ⟨⟨vp',vf',s',_,_⟩,_⟩:=H;have s2:=s'.grow x.bel;obtain rfl:vp=vp':=Option.some.inj (s.sl.c2.symm.trans s2.sl.c2);obtain rfl:vf=vf':=Option.some.inj (s.sl.c3.symm.trans s2.sl.c3);have:=s'.lts y hq;omega
  obtain ⟨S1,k1,k2,k3,k4⟩:=H7.apart (fun y=>(y=b∨lv.ownBlock=some y)∨(Value.slice a (shL ps q).length c).ownBlock=some y) (fun vp vf s y hy=>hnot vp vf s y (by
    rcases hy with (hy | hy) | hy
    · rw [hy];exact x.blo
    · exact x.lo y hy
    · exact (hr.lt y hy).1)) (fun y hy=>by
    rcases hy with (hy | hy) | hy
    · rw [hy];exact x.pr.blk.lt
    · exact (x.pr.lst.lt y hy).2
    · exact (hr.lt y hy).2)
  have hI:Kq S1 w7 (fun w'=>Ints9 w' a (shL ps q)):=fun w' m=>ints9_lst (lst_mod (owR_lst hr) m fun y hy=>k2 y (.inr hy)) rfl
  have hl1:=shL_len ps q;have hl2:=x.cnt;have hl3:=x.few;have so:=sh_ok x.gr.isG;obtain ⟨_,hr1,hr2⟩:=H.sizes;have hmm:=hm_ok H.2 _ (shL ps q) rfl (fun y hy=>.inr (so.mem y hy).2);refine (bholdAll_any k1 a _ c (shL ps q) hI rfl (by omega) (fun y hy=>.inr (so.mem y hy).2) (fun _ i=>?_)).mono ?_
  · have:=H.2.ccLe i 1000000 (hbd i)
    omega
  · rintro e w8 ⟨rfl,h8⟩
    obtain ⟨q1,q2,q3⟩:=k4 _ _ _ h8;exact ⟨rfl,_,hmm,q1,x.pr.mod q2 (k2 _ (.inl (.inl rfl))) (fun y hy=>k2 y (.inl (.inr hy))),fun vp vf s y hy=>q3 vp vf s y (.inl hy)⟩

theorem bld8_any {w8:World} {l ks:List Wt} {ps:List Pn} {G:Gt} (W:Wf cs []) (hrd:∀x∈l,Kq S w0 fun w'=>Reads w' x.v x.b) (hL:Kq S w0 Laid) (hn:l.length≤64) (hf:noc cs+258 * ks.length≤room) (x:Gw5 w w5 b g cs h T l ks q ps lv G) {cs1:Lz} (d:Hd8 w0 w8 S b g gs room cs fr q ps lv cs1):
    Kc 201 #[.pointer (some ⟨b,0,none⟩),.int .i64 q] w8 fun e w9=>∃s,e=.returned (.int .i64 (hdl s.ms q:Int))∧Hs w0 S w9 g gs room s.cs s.fr∧BzOk 0 0 ps.length q G ⟨cs1,fr,[]⟩ s:=by
  obtain ⟨S1,k1,k2,k3,k4⟩:=d.hs.apart (fun y=>y=b∨lv.ownBlock=some y) d.ap (fun y hy=>by
    rcases hy with hy | hy
    · rw [hy];exact d.pr.blk.lt
    · exact (d.pr.lst.lt y hy).2)
  obtain ⟨z1,z2⟩:=bz_start W x.gr.isG x.gr.ok d.hm fr;have hl2:=x.cnt;have hl3:=x.few;have hp:=isG_parts x.gr.isG;refine (build_any k1 d.pr (fun vp vf s y hy=>d.ap vp vf s y hy) (k3 _ hL) (fun n hn hi=>k3 _ (hrd _ (x.wr n hn hi))) (fun j s1 hj hz=>z1 j s1 (Nat.zero_le _) hj hz) (fun j n hj=>hp.2 j n (Nat.zero_le _) hj) (by have:=d.hm.noc;omega) (by omega) q hp.1).mono ?_;rintro e w9 ⟨s,hz,rfl,h9⟩;exact ⟨s,rfl,(k4 _ _ _ h9).1,z2 s hz⟩

theorem drp9_any {w9:World} {l ks:List Wt} {ps:List Pn} {G:Gt} (W:Wf cs []) (r:Rt cs h T) (x:Gw5 w w5 b g cs h T l ks q ps lv G) (hq:q≠(h:Int)) {cs1:Lz} (hm:HmOk cs (shL ps q) cs1) {s:Bst} (o:BzOk 0 0 ps.length q G ⟨cs1,fr,[]⟩ s) (H:Hs w0 S w9 g gs room s.cs s.fr):
    Kc 97 #[.pointer (some ⟨g,0,none⟩),.int .i64 (h:Int)] w9 fun e w10=>∃u1 u2 cs' fr',e=.returned (.tuple #[.int .i64 u1,.int .i64 u2])∧Hs w0 S w10 g gs room cs' fr'∧BatOk cs T.ents ks h (hdl s.ms q) ps.length G.olds cs':=by
  have b0:=bat_ok0 (E:=T.ents) (l:=ks) W x.gr.isG x.gr.ents hm o
  by_cases h0:h=0
  · subst h0
    refine (hs_drop_miss H 0 (by simp [cot])).mono ?_;rintro e w10 ⟨rfl,h10⟩;exact ⟨_,_,_,_,rfl,h10,b0⟩
  · have ho:=r.own.resolve_left h0
    have ho2:0<own s.cs [] (h-1):=by
      have:=b0.own (h-1);rw [if_neg (by omega)] at this;omega
    have c:=hs_drop H (h-1) ho2;rw [show h-1+1=h by omega] at c;refine c.mono ?_;rintro e w10 ⟨cs',fr',n,run,st,rfl,h10⟩;refine ⟨_,_,cs',fr',rfl,h10,bat_ok1 W x.gr.isG x.gr.ents hm o (by omega) ho run st fun e=>?_⟩
    by_cases q0:q<0
    · obtain ⟨n1,n2⟩:=o.new q0
      have n2:cc cs1 (hdl s.ms q-1)=0:=n2;rw [e,hm.cc] at n2;unfold Go.Proofs.YtdjpigfibafokaaGreatDoor.own at ho;omega
    · rw [hdl,if_neg q0] at e
      omega

theorem Rt.at0 (r:Rt cs h T):vAh true (cot cs h) (cat cs h) h=0:=by
  unfold vAh;rw [if_pos r.root,if_neg];rintro ⟨h0,q⟩;have h1:h≠0:=fun e=>h0 (by omega)
  have ho:=r.own.resolve_left h1;have hc:cot cs (h:Int)=cc cs (h-1):=by rw [cot,if_pos (by omega),show ((h:Int)-1).toNat=h-1 by omega]
  rw [hc,cat_nat,sdC,if_neg h1] at q;unfold Go.Proofs.YtdjpigfibafokaaGreatDoor.own at ho;rw [List.count_nil] at ho;omega

theorem bRf_ok {l:List Wt} (hn:l.length≤64) (ht:l.any tooL=false) {n room:Nat} {k:Nat} (hk:k≤64):bRf n room 0 l k=if n+258 * k≤room then 0 else 9:=by
  unfold bRf;rw [if_neg (fun q=>q.elim (by omega) (by rw [ht];exact fun q=>by cases q)),if_neg (fun q=>q rfl)]
  by_cases hh:n+258 * k≤room
  · rw [if_pos hh,if_pos (by simp only [fitsN,decide_eq_true_eq];omega)]
  · rw [if_neg hh,if_neg (by simp only [fitsN,decide_eq_true_eq];omega)]

theorem apply_any (H:Hs w0 S w g gs room cs fr) {h:Nat} {T:Tre} (r:Rt cs h T) (v:Value) (l:List Wt) (hv:WrAt w v l) (hrd:∀x∈l,Kq S w0 fun w'=>Reads w' x.v x.b) (hL:Kq S w0 Laid) (hbd:∀i,own cs [] i≤1000000) (hn:l.length≤64) (ht:l.any tooL=false) (hf:∀ks,Lat l ks→noc cs+258 * ks.length≤room):
    Kc 117 #[.pointer (some ⟨g,0,none⟩),.int .i64 (h:Int),v] w (ApPost w0 S g gs room cs fr h T l):=by
  have W:=H.2;have hz:∀k:Nat,(64<l.length∨l.any tooL=true∨vAh true (cot cs h) (cat cs h) h≠0∨∃ks,Lat l ks∧ks.length=k)→bRf (noc cs) room (vAh true (cot cs h) (cat cs h) h) l k=0:=fun k hk=>by
    rcases hk with q | q | q | ⟨ks,q1,q2⟩
    · omega
    · rw [ht] at q
      cases q
    · exact absurd r.at0 q
    · rw [r.at0]
      have h2:=hf ks q1;obtain ⟨_,h3,_⟩:=H.sizes;have h4:=q1.len;rw [bRf_ok hn ht (by omega),if_pos (by omega)]
  have HRF:Hid (Kc 195 #[.pointer (some ⟨g,0,none⟩),.int .i64 (h:Int),v] w fun e w'=>e=.returned (.int .i64 0)∧Kb w w'):=(bref_any H h v l hv (by omega)).mono fun e w' ⟨k,q1,q2,q3⟩=>⟨by rw [q1,hz k q2],q3⟩
  have HLT:Hid (∀w',Kb w w'→Kc 197 #[v] w' (LatPost l w')):=fun w' hb=>latest_any v l w' (hv.grow hb) (by omega)
  have HGR:Hid (∀w4 b v1 ks,Kb w w4→w.heap.size≤b→Blk w4 b 279 #[.pointer (some ⟨g,0,none⟩),.slice none 0 0]→Lat l ks→ks.length≤l.length→Lst w4 198 34 v1 ks.length (flatE encW ks)→Kc 196 #[.pointer (some ⟨b,0,none⟩),.int .i64 (h:Int),.int .i64 0,v1] w4 fun e w5=>∃q ps lv G,e=.returned (.int .i64 q)∧Gw5 w w5 b g cs h T l ks q ps lv G):=fun w4 b v1 ks q1 q2 q3 q4 q5 q6=>gw5_any W (fun w' hb=>H.vw.grow hb) r hv hn ht q1 q2 q3 q4 q5 q6
  have HSH:Hid (∀w5 b ks q ps lv G,Gw5 w w5 b g cs h T l ks q ps lv G→Kc 198 #[.pointer (some ⟨b,0,none⟩),.int .i64 q] w5 fun e w6=>∃a c,e=.returned (.slice a (shL ps q).length c)∧w6.ownsRow w.heap.size 3 1 (.slice a (shL ps q).length c) (shL ps q).length (nats (shL ps q))∧Gw5 w w6 b g cs h T l ks q ps lv G):=fun w5 b ks q ps lv G x=>(shared11_any x.pr q (by have:=x.cnt;have:=x.few;omega)).mono fun e w6 ⟨a,c,e1,r1,b1⟩=>⟨a,c,e1,owR_base r1 x.bel.size,x.grow b1⟩
  have HCO:Hid (∀w6 b ks q ps lv G a c,Gw5 w w6 b g cs h T l ks q ps lv G→w6.ownsRow w.heap.size 3 1 (.slice a (shL ps q).length c) (shL ps q).length (nats (shL ps q))→Kc 199 #[.pointer (some ⟨g,0,none⟩),.int .i64 (h:Int),.slice a (shL ps q).length c] w6 fun e w7=>e=.returned (.bool true)∧Gw5 w w7 b g cs h T l ks q ps lv G∧w7.ownsRow w.heap.size 3 1 (.slice a (shL ps q).length c) (shL ps q).length (nats (shL ps q))):=fun w6 b ks q ps lv G a c x hr=>(bcountable_any (H.vw.grow x.bel) (fun z=>by
      have hcc:∀i,cc cs i≤1131072:=fun i=>by
        have h1:=W.ccLe i 1000000 (hbd i);obtain ⟨_,h2,h3⟩:=H.sizes;omega
      unfold cot;split
      · have:=hcc (z-1).toNat
        omega
      · omega) h a _ c (shL ps q) (ints9_lst (owR_lst hr) rfl) rfl (by have:=shL_len ps q;have:=x.cnt;have:=x.few;omega)).mono fun e w7 ⟨e1,b1⟩=>⟨e1,x.grow b1,owR_grow hr b1⟩
  have HHO:Hid (∀w7 b ks q ps lv G a c,Gw5 w w7 b g cs h T l ks q ps lv G→w7.ownsRow w.heap.size 3 1 (.slice a (shL ps q).length c) (shL ps q).length (nats (shL ps q))→Kc 200 #[.pointer (some ⟨g,0,none⟩),.slice a (shL ps q).length c] w7 fun e w8=>e=.returned (.slice none 0 0)∧∃cs1,Hd8 w0 w8 S b g gs room cs fr q ps lv cs1):=fun w7 b ks q ps lv G a c x hr=>hd8_any H hbd hn x hr
  have HBU:Hid (∀w5 w8 b ks q ps lv G cs1,Gw5 w w5 b g cs h T l ks q ps lv G→Hd8 w0 w8 S b g gs room cs fr q ps lv cs1→Kc 201 #[.pointer (some ⟨b,0,none⟩),.int .i64 q] w8 fun e w9=>∃s,e=.returned (.int .i64 (hdl s.ms q:Int))∧Hs w0 S w9 g gs room s.cs s.fr∧BzOk 0 0 ps.length q G ⟨cs1,fr,[]⟩ s):=fun w5 w8 b ks q ps lv G cs1 x d=>bld8_any W hrd hL hn (hf ks x.lat) x d
  have HDR:Hid (∀w5 w9 b ks q ps lv G cs1 s,Gw5 w w5 b g cs h T l ks q ps lv G→q≠(h:Int)→HmOk cs (shL ps q) cs1→BzOk 0 0 ps.length q G ⟨cs1,fr,[]⟩ s→Hs w0 S w9 g gs room s.cs s.fr→Kc 97 #[.pointer (some ⟨g,0,none⟩),.int .i64 (h:Int)] w9 fun e w10=>∃u1 u2 cs' fr',e=.returned (.tuple #[.int .i64 u1,.int .i64 u2])∧Hs w0 S w10 g gs room cs' fr'∧BatOk cs T.ents ks h (hdl s.ms q) ps.length G.olds cs'):=fun w5 w9 b ks q ps lv G cs1 s x hq hm o h9=>drp9_any W r x hq hm o h9
  have HNL:Hid (∀w',Kc 200 #[.pointer (some ⟨g,0,none⟩),.slice none 0 0] w' fun e w''=>e=.returned (.slice none 0 0)∧w''=w'):=fun w'=>bholdAll_nil _ w'
  have HPS:Hid (∀w5 b ks q ps lv G,q=(h:Int)→Gw5 w w5 b g cs h T l ks q ps lv G→ApPost w0 S g gs room cs fr h T l (.returned (.tuple #[.int .i64 (h:Int),.int .i64 0])) w5):=fun w5 b ks q ps lv G hq x=>by
    subst hq;exact ⟨ks,_,ps,G,h,cs,fr,rfl,H.grow x.bel,x.lat,x.gr,bat_same W r x.gr,fun _=>⟨rfl,rfl⟩⟩
  have HPN:Hid (∀w5 w10 b ks q ps lv G s cs' fr',q≠(h:Int)→Gw5 w w5 b g cs h T l ks q ps lv G→Hs w0 S w10 g gs room cs' fr'→BatOk cs T.ents ks h (hdl s q) ps.length G.olds cs'→ApPost w0 S g gs room cs fr h T l (.returned (.tuple #[.int .i64 (hdl s q:Int),.int .i64 0])) w10):=fun w5 w10 b ks q ps lv G s cs' fr' hq x h10 bt=>⟨ks,q,ps,G,_,cs',fr',rfl,h10,x.lat,x.gr,bt,fun e=>absurd e hq⟩
  have HSP:Hid ((Tryz.prog.info? 279).map (·.size)=some 2):=(by show _=_;kernel_rfl);have H1C:Hid ((#[.pointer (some ⟨g,0,none⟩),Value.slice none 0 0]:Array Value).all (·.oneCell')=true):=all_oneCell_toArray (cs:=[.pointer (some ⟨g,0,none⟩),Value.slice none 0 0]) fun u hu=>by
    rcases List.mem_cons.1 hu with e | hu
    · subst e;rfl
    · rcases List.mem_cons.1 hu with e | hu
      · subst e;rfl
      · cases hu
  generalize ApPost w0 S g gs room cs fr h T l=PP at HPS HPN ⊢;clear H r hv hrd hL hbd hn ht hf hz W;go_enter Tryz.func117,Tryz.ntmps117
  go_upto_region 6 with (first
    |(go_at_call 195;refine HRF.out.mono ?_;rintro e w1 ⟨rfl,b1⟩;have HB1:=hidden b1;clear b1 HRF)
    |((with_reducible refine at_ald 9 ?_);refine wpList_al _ rfl _ rfl _ zero_plan ?_;intro w2 b9 hg9 hl9 B9 q9;have HG9:=hidden (Nat.le_trans HB1.out.size hg9);have HQ9:=hidden q9;have HGG:=hidden hg9;clear hg9 hl9)
    |((with_reducible refine at_st 9 ?_);refine wpList_sto _ rfl _ _ _ rfl b9 _ #[.pointer (some ⟨g,0,none⟩),.slice none 0 0] rfl rfl B9 HSP.out rfl H1C.out ?_;intro w3 B93 r3;have HB93:=hidden B93;have HB3:=hidden (grow_trans HB1.out (below_row HQ9.out r3 HGG.out));clear B9 q9 B93 r3)
    |(go_at_call 197;refine (HLT.out _ HB3.out).mono ?_;rintro e w4 ⟨v1,ks,rfl,c1,c2,c3,c4,c5⟩;have HC1:=hidden c1;have HC2:=hidden c2;have HC4:=hidden c4;have HB4:=hidden (grow_trans HB3.out c5);have HB94:=hidden (HB93.out.grow c5);clear c1 c2 c3 c4 c5)
    |(go_at_call 196;refine (HGR.out _ _ _ _ HB4.out HG9.out HB94.out HC1.out HC4.out HC2.out).mono ?_;rintro e w5 ⟨q,ps,lv,G,rfl,g5⟩;have HG5:=hidden g5;clear g5 HGR HLT))
  by_cases hq:q=(h:Int)
  · have HS:=hidden (HPS.out _ _ _ _ _ _ _ hq HG5.out)
    subst hq;clear HPS HPN HSH HCO HHO HBU HDR HNL HG5 HC1 HC2 HC4 HB94
    go_wp2_with fail
    exact HS.out
  · have e3:(q == (h:Int))=false:=by simpa using hq
    have HQ:=hidden hq;clear HPS HC1 HC2 HC4 HB94
    go_wp2_with (first
      |(go_at_call 200;have mk:=mk1;clear mk;refine (HNL.out _).mono ?_;rintro e w11 ⟨rfl,hx⟩;rw [hx];clear hx w11)
      |(go_at_call 198;refine (HSH.out _ _ _ _ _ _ _ HG5.out).mono ?_;rintro e w6 ⟨a6,c6,rfl,r6,g6⟩;have HR6:=hidden r6;have HG6:=hidden g6;clear r6 g6 HSH HG5)
      |(go_at_call 199;refine (HCO.out _ _ _ _ _ _ _ _ _ HG6.out HR6.out).mono ?_;rintro e w7 ⟨rfl,g7,r7⟩;have HR7:=hidden r7;have HG7:=hidden g7;clear r7 g7 HCO HG6 HR6)
      |(go_at_call 200;refine (HHO.out _ _ _ _ _ _ _ _ _ HG7.out HR7.out).mono ?_;rintro e w8 ⟨rfl,cs1,d8⟩;have mk1:Hid True:=trivial;have HD8:=hidden d8;clear d8 HHO HR7)
      |(go_at_call 201;refine (HBU.out _ _ _ _ _ _ _ _ _ HG7.out HD8.out).mono ?_;rintro e w9 ⟨s,rfl,h9,o9⟩;have HH9:=hidden h9;have HO9:=hidden o9;clear h9 o9 HBU)
      |(go_at_call 97;refine (HDR.out _ _ _ _ _ _ _ _ _ _ HG7.out HQ.out HD8.out.hm HO9.out HH9.out).mono ?_;rintro e w10 ⟨u1,u2,cs',fr',rfl,h10,b10⟩;have HH10:=hidden h10;have HB10:=hidden b10;clear h10 b10 HDR HH9 HO9))
    exact HPN.out _ _ _ _ _ _ _ _ _ _ _ HQ.out HG7.out HH10.out HB10.out

end Go.Proofs.YtdjpigfibafokaaGreatDoor

namespace Go.Proofs.YtdjpigfibafokaaGreatDoor
variable {S fr:List Nat}
variable {T:Tre}
variable {b d g gs h room:Nat}
variable {cs:Lz}
variable {lv:Value}
variable {q:Int}
variable {w w0 w4 w5:World}
set_option maxHeartbeats 4000000
set_option maxRecDepth 20000
open Go.RowKit

def kcnt:List (Lq)→Nat
  | []=>0
  | a::l=>if a∈l then kcnt l else kcnt l+1
theorem kcnt_of:∀(l r:List (Lq)),r.Nodup→(∀x,x∈r↔x∈l)→r.length=kcnt l
  | [],r,_,h=>by
    match r,h with
    | [],_=>rfl
    | a::_,h=>exact absurd ((h a).1 (by simp)) (by simp)
  | a::l,r,hr,h=>by
    unfold kcnt
    by_cases ha:a∈l
    · rw [if_pos ha]
      exact kcnt_of l r hr fun x=>(h x).trans ⟨fun q=>(List.mem_cons.1 q).elim (fun e=>e ▸ ha) id,fun q=>List.mem_cons_of_mem _ q⟩
    · rw [if_neg ha]
      have hm:a∈r:=(h a).2 (by simp);have h1:=kcnt_of l (r.erase a) (hr.erase a) fun x=>by
        rw [hr.mem_erase_iff,h,List.mem_cons];constructor
        · rintro ⟨q1,q2⟩
          exact q2.resolve_left q1
        · intro q
          exact ⟨fun e=>ha (e ▸ q),.inr q⟩
      rw [List.length_erase_of_mem hm] at h1;have:0<r.length:=List.length_pos_of_mem hm;omega

theorem lastW_key:∀(l:List Wt) (K:Lq),K∈l.map (·.k)→∃x,LastW l x∧x.k=K
  | [],_,h=>by simp at h
  | a::l,K,h=>by
    by_cases q:K∈l.map (·.k)
    · obtain ⟨x,⟨p,s,h1,h2⟩,h3⟩:=lastW_key l K q
      exact ⟨x,⟨a::p,s,by rw [h1];rfl,h2⟩,h3⟩
    · have e:a.k=K:=by
        rw [List.map_cons,List.mem_cons] at h;exact (h.resolve_right q).symm
      exact ⟨a,⟨[],l,rfl,fun y hy e2=>q (List.mem_map.2 ⟨y,hy,e2.trans e⟩)⟩,e⟩
theorem Lat.cnt {l r:List Wt} (h:Lat l r):r.length=kcnt (l.map (·.k)):=by
  have e:(r.map (·.k)).length=r.length:=by rw [List.length_map]
  rw [← e];refine kcnt_of _ _ ?_ fun K=>⟨fun q=>?_,fun q=>?_⟩
  · exact List.pairwise_map.2 (List.Pairwise.imp (fun {a b} q e=>by have q1:Ahead a.k b.k:=q;rw [e] at q1;exact q1.ne) h.ris)
  · obtain ⟨x,hx,rfl⟩:=List.mem_map.1 q
    exact List.mem_map.2 ⟨x,h.sub x hx,rfl⟩
  · obtain ⟨x,hx,rfl⟩:=lastW_key l K q
    exact List.mem_map.2 ⟨x,(h.mem x).2 hx,rfl⟩

def rmE (o R:Nat) (l:List Rw):Int:=if fitsN o R (kcnt (l.map (·.k)):Nat)=true then 0 else 9

section
variable {w1 w:World} {X:List Nat} {r d gv hd b g gs R:Nat} {ms:Nms} {cs:Lz} {fr:List Nat} {s:ByteArray} {kv lv:Value} {l:List Rw}

theorem noRoom_any (hk:Dk w d gv hd) (h:Hv w1 w X gv b g gs R ms cs fr) (hr:Rq w r d s kv lv) (hl:RwAt w lv l) (hbd:l.length≤65536) (h32:∀x∈l,x.k.length=32):Kc 154 #[.pointer (some ⟨r,0,none⟩)] w fun e w'=>e=.returned (.int .i64 (rmE (noc cs) R l))∧Kb w w':=by
  have HS:Hid (Kr w 19 #[.pointer (some ⟨d,0,none⟩)] (.pointer (some ⟨g,0,none⟩))):=fun w' hb=>dstore_ok (hk.grow hb) (h.grow hb)
  have HWr:Hid (∀w',Kb w w'→Kc 118 #[lv] w' fun e w''=>∃v,e=.returned v∧WrAt w'' v (l.map Rw.wt)∧Below w'.heap.size w' w''):=fun w' hb=>writes_any (hl.grow hb) hbd h32
  have HKy:Hid (∀w' v,WrAt w' v (l.map Rw.wt)→Kc 219 #[v] w' fun e w''=>e=.returned (.int .i64 (kcnt (l.map (·.k)):Nat))∧Below w'.heap.size w' w''):=fun w' v hv=>(keys_any v _ w' hv (by rw [List.length_map];exact hbd)).mono fun e w'' ⟨ks,h1,_,h2,h3⟩=>by
    rw [h1.cnt,List.map_map] at h2;exact ⟨h2,h3⟩
  have HFi:Hid (Kr w 156 #[.pointer (some ⟨g,0,none⟩),.int .i64 (kcnt (l.map (·.k)):Nat)] (.bool (fitsN (noc cs) R (kcnt (l.map (·.k)):Nat)))):=fun w' hb=>by
    obtain ⟨S,q,_⟩:=(h.grow hb).hs;exact fits9_any q _
  have HR:Hid (∀w',Kb w w'→Rq w' r d s kv lv):=fun w' hb=>hr.grow hb
  unfold rmE;generalize fitsN (noc cs) R (kcnt (l.map (·.k)):Nat)=F at *;generalize kcnt (l.map (·.k))=N at *;clear hk h hr hl hbd h32;cases F with
  | true=>
    rw [if_pos rfl];go_enter Tryz.func154,Tryz.ntmps154
    go_wp2
    refine wp_region_held_drew (S:=fun w'=>Kb w w') (by kernel_rfl) (below_drewN (Below.refl _ _) 1) (fun hHeld=>?_);refine tkp 0 (.pointer (some ⟨r,0,none⟩)) hHeld ?_;simp only [Act.put,zq1,zq2,zq4,zq5,zq6];refine tkp 1 (.pointer (some ⟨r,0,none⟩)) hHeld ?_;simp only [Act.put,zq1,zq2,zq3,zq4,zq5,zq6];refine tkp 2 (.pointer (some ⟨r,0,none⟩)) hHeld ?_;simp only [Act.put,zq1,zq2,zq3,zq4,zq5,zq6];refine tkg 3 (.pointer (some ⟨d,0,none⟩)) rfl (Or.inl ⟨by rfl,fun w hS=>by (have c0:=(HR.out _ hS).c0;go_simp)⟩) hHeld ?_;simp only [Act.put,zq1,zq2,zq3,zq4,zq5,zq6];refine tkp 5 (.pointer (some ⟨r,0,none⟩)) hHeld ?_;simp only [Act.put,zq1,zq2,zq3,zq4,zq5,zq6];refine tkp 6 (.pointer (some ⟨r,0,none⟩)) hHeld ?_;simp only [Act.put,zq1,zq2,zq3,zq4,zq5,zq6];refine tkp 7 (.pointer (some ⟨r,3,none⟩)) hHeld ?_;simp only [Act.put,zq1,zq2,zq3,zq4,zq5,zq6];refine tkg 8 (lv) rfl (Or.inl ⟨by rfl,fun w hS=>by (have c3:=(HR.out _ hS).c3;go_simp)⟩) hHeld ?_;simp only [Act.put,zq1,zq2,zq3,zq4,zq5,zq6];refine wpAnyH_ready (rs:=[4]) (by kernel_rfl) (by simp) ?_;refine AllReadyH.cons rfl (fun KQ hK=>?_) AllReadyH.nil;go_simp;refine (HS.out _ hHeld).mono ?_;rintro e y1 ⟨rfl,a1⟩;refine hK.out _ _ (grow_trans hHeld a1) (fun hHeld=>?_);clear hK KQ;refine wpAnyH_ready (rs:=[9]) (by kernel_rfl) (by simp) ?_;refine AllReadyH.cons rfl (fun KQ hK=>?_) AllReadyH.nil;go_simp;refine (HWr.out _ hHeld).mono ?_;rintro e y2 ⟨v2,rfl,hv2,a2⟩;refine hK.out _ _ (grow_trans hHeld a2) (fun hHeld=>?_);clear hK KQ;refine wpAnyH_ready (rs:=[10]) (by kernel_rfl) (by simp) ?_;refine AllReadyH.cons rfl (fun KQ hK=>?_) AllReadyH.nil;go_simp;refine (HKy.out _ _ hv2).mono ?_;rintro e y3 ⟨rfl,a3⟩;refine hK.out _ _ (grow_trans hHeld a3) (fun hHeld=>?_);clear hK KQ;refine wpAnyH_ready (rs:=[11]) (by kernel_rfl) (by simp) ?_;refine AllReadyH.cons rfl (fun KQ hK=>?_) AllReadyH.nil;go_simp;refine (HFi.out _ hHeld).mono ?_;rintro e y4 ⟨rfl,a4⟩;refine hK.out _ _ (grow_trans hHeld a4) (fun hHeld=>?_);clear hK KQ;refine tkp 12 (.bool false) hHeld ?_;simp only [Act.put,zq1,zq2,zq3,zq4,zq5,zq6];refine wpAnyH_done (by kernel_rfl) ?_ _;go_wp2
    go_ret;exact ⟨rfl,hHeld⟩
  | false=>
    rw [if_neg (by simp)];go_enter Tryz.func154,Tryz.ntmps154
    go_wp2
    refine wp_region_held_drew (S:=fun w'=>Kb w w') (by kernel_rfl) (below_drewN (Below.refl _ _) 1) (fun hHeld=>?_);refine tkp 0 (.pointer (some ⟨r,0,none⟩)) hHeld ?_;simp only [Act.put,zq1,zq2,zq4,zq5,zq6];refine tkp 1 (.pointer (some ⟨r,0,none⟩)) hHeld ?_;simp only [Act.put,zq1,zq2,zq3,zq4,zq5,zq6];refine tkp 2 (.pointer (some ⟨r,0,none⟩)) hHeld ?_;simp only [Act.put,zq1,zq2,zq3,zq4,zq5,zq6];refine tkg 3 (.pointer (some ⟨d,0,none⟩)) rfl (Or.inl ⟨by rfl,fun w hS=>by (have c0:=(HR.out _ hS).c0;go_simp)⟩) hHeld ?_;simp only [Act.put,zq1,zq2,zq3,zq4,zq5,zq6];refine tkp 5 (.pointer (some ⟨r,0,none⟩)) hHeld ?_;simp only [Act.put,zq1,zq2,zq3,zq4,zq5,zq6];refine tkp 6 (.pointer (some ⟨r,0,none⟩)) hHeld ?_;simp only [Act.put,zq1,zq2,zq3,zq4,zq5,zq6];refine tkp 7 (.pointer (some ⟨r,3,none⟩)) hHeld ?_;simp only [Act.put,zq1,zq2,zq3,zq4,zq5,zq6];refine tkg 8 (lv) rfl (Or.inl ⟨by rfl,fun w hS=>by (have c3:=(HR.out _ hS).c3;go_simp)⟩) hHeld ?_;simp only [Act.put,zq1,zq2,zq3,zq4,zq5,zq6];refine wpAnyH_ready (rs:=[4]) (by kernel_rfl) (by simp) ?_;refine AllReadyH.cons rfl (fun KQ hK=>?_) AllReadyH.nil;go_simp;refine (HS.out _ hHeld).mono ?_;rintro e y1 ⟨rfl,a1⟩;refine hK.out _ _ (grow_trans hHeld a1) (fun hHeld=>?_);clear hK KQ;refine wpAnyH_ready (rs:=[9]) (by kernel_rfl) (by simp) ?_;refine AllReadyH.cons rfl (fun KQ hK=>?_) AllReadyH.nil;go_simp;refine (HWr.out _ hHeld).mono ?_;rintro e y2 ⟨v2,rfl,hv2,a2⟩;refine hK.out _ _ (grow_trans hHeld a2) (fun hHeld=>?_);clear hK KQ;refine wpAnyH_ready (rs:=[10]) (by kernel_rfl) (by simp) ?_;refine AllReadyH.cons rfl (fun KQ hK=>?_) AllReadyH.nil;go_simp;refine (HKy.out _ _ hv2).mono ?_;rintro e y3 ⟨rfl,a3⟩;refine hK.out _ _ (grow_trans hHeld a3) (fun hHeld=>?_);clear hK KQ;refine wpAnyH_ready (rs:=[11]) (by kernel_rfl) (by simp) ?_;refine AllReadyH.cons rfl (fun KQ hK=>?_) AllReadyH.nil;go_simp;refine (HFi.out _ hHeld).mono ?_;rintro e y4 ⟨rfl,a4⟩;refine hK.out _ _ (grow_trans hHeld a4) (fun hHeld=>?_);clear hK KQ;refine tkp 12 (.bool true) hHeld ?_;simp only [Act.put,zq1,zq2,zq3,zq4,zq5,zq6];refine wpAnyH_done (by kernel_rfl) ?_ _;go_wp2
    go_ret;exact ⟨rfl,hHeld⟩
end

end Go.Proofs.YtdjpigfibafokaaGreatDoor

namespace Go.Proofs.YtdjpigfibafokaaGreatDoor
variable {S fr:List Nat}
variable {T:Tre}
variable {b d g gs h room:Nat}
variable {cs:Lz}
variable {lv:Value}
variable {q:Int}
variable {w w0 w4 w5:World}
set_option maxHeartbeats 4000000
set_option maxRecDepth 20000
open Go.RowKit

def nmAt (ms:Nms) (x:List UInt8):Nat:=((ms.find? (fun p=>p.1 == x)).map (·.2)).getD 0
def vrE (ms:Nms) (s:ByteArray):Int:=if nmHas ms s.data.toList=true then 0 else 7
def trV (ms:Nms) (hd:Nat) (s:ByteArray):Nat:=if s.size=0 then hd else nmAt ms s.data.toList
def trE (ms:Nms) (s:ByteArray):Int:=if s.size=0 then 0 else vrE ms s

theorem nmAt_mem {ms:Nms} {x:List UInt8} (h:nmHas ms x=true):(x,nmAt ms x)∈ms:=by
  obtain ⟨p,hp,e⟩:=List.mem_map.1 (nmHas_iff.1 h);unfold nmAt;cases hf:ms.find? (fun p=>p.1 == x) with
  | none=>
    have:=List.find?_eq_none.1 hf p hp;simp [e] at this
  | some q=>
    have h1:=List.mem_of_find?_eq_some hf;have h2:=List.find?_some hf;have h3:q.1=x:=by simpa using h2
    obtain ⟨a,c⟩:=q;subst h3;exact h1
theorem nmAt_none {ms:Nms} {x:List UInt8} (h:nmHas ms x=false):nmAt ms x=0:=by
  unfold nmAt;rw [List.find?_eq_none.2 fun p hp=>?_]
  · rfl
  · intro e
    have:nmHas ms x=true:=nmHas_iff.2 (List.mem_map.2 ⟨p,hp,by simpa using e⟩);rw [h] at this;cases this

section
variable {w1 w:World} {X:List Nat} {d gv hd b g gs R r:Nat} {ms:Nms} {cs:Lz} {fr:List Nat} {s:ByteArray} {kv lv:Value}

theorem vroot_any (h:Hv w1 w X gv b g gs R ms cs fr) (hs:s.size≤maxLen):Kc 95 #[.pointer (some ⟨gv,0,none⟩),.string s] w fun e w'=>e=.returned (.tuple #[.int .i64 (nmAt ms s.data.toList:Int),.int .i64 (vrE ms s)])∧w'=w:=by
  unfold vrE
  by_cases hn:nmHas ms s.data.toList=true
  · rw [if_pos hn]
    exact vroot_ok h hs (nmAt_mem hn)
  · have hn':=Bool.eq_false_iff.2 hn
    rw [if_neg hn,nmAt_none hn'];exact vroot_miss h hs hn'

theorem of_any15 (h:Hv w1 w X gv b g gs R ms cs fr) (hs:s.size≤maxLen):Kc 123 #[.agg #[.pointer (some ⟨gv,0,none⟩),.int .i64 (hd:Int)],.string s] w fun e w'=>e=.returned (.tuple #[.int .i64 (trV ms hd s:Int),.int .i64 (trE ms s)])∧Kb w w':=by
  have HV:Hid (∀w',Kb w w'→Kc 95 #[.pointer (some ⟨gv,0,none⟩),.string s] w' fun e w''=>e=.returned (.tuple #[.int .i64 (nmAt ms s.data.toList:Int),.int .i64 (vrE ms s)])∧w''=w'):=fun w' hb=>vroot_any (h.grow hb) hs
  clear h hs
  by_cases h0:s.size=0
  · obtain rfl:s=⟨#[]⟩:=by
      obtain ⟨a⟩:=s;have:a.size=0:=h0;rw [Array.size_eq_zero_iff.1 this]
    have e1:trV ms hd ⟨#[]⟩=hd:=if_pos rfl;have e2:trE ms ⟨#[]⟩=0:=if_pos rfl;rw [e1,e2];clear e1 e2 h0;go_enter Tryz.func123,Tryz.ntmps123
    go_wp2_with ((with_reducible refine at_bxd 2 ?_);refine wpList_bx _ rfl _ _ rfl _ rfl ?_;intro w2 g2 hg2 hl2 B2 q2;have HB2:=hidden B2;have HQ2:=hidden q2;have c21:w2.cell? ⟨g2,1,none⟩=some (.int .i64 (hd:Int)):=(by rw [B2.cell];rfl);clear hg2 hl2 B2 q2)
    go_ret2;exact ⟨rfl,HQ2.out⟩
  · have hem:=tx_empty s
    rw [decide_eq_false h0] at hem;have e1:trV ms hd s=nmAt ms s.data.toList:=if_neg h0;have e2:trE ms s=vrE ms s:=if_neg h0;rw [e1,e2];clear e1 e2 h0;go_enter Tryz.func123,Tryz.ntmps123
    go_wp2_with (first
      |((with_reducible refine at_bxd 2 ?_);refine wpList_bx _ rfl _ _ rfl _ rfl ?_;intro w2 g2 hg2 hl2 B2 q2;have HB2:=hidden B2;have HQ2:=hidden q2;have c20:w2.cell? ⟨g2,0,none⟩=some (.pointer (some ⟨gv,0,none⟩)):=(by rw [B2.cell];rfl);clear hg2 hl2 B2 q2)
      |(go_at_call 95;refine (HV.out _ HQ2.out).mono ?_;rintro e w' ⟨rfl,hx⟩;rw [hx];clear hx w'))
    go_ret2;exact ⟨rfl,HQ2.out⟩

theorem noTree_any (hd':Dk w d gv hd) (hr:Rq w r d s kv lv) (h:Hv w1 w X gv b g gs R ms cs fr) (hs:s.size≤maxLen):Kc 122 #[.pointer (some ⟨r,0,none⟩)] w fun e w'=>e=.returned (.int .i64 (trE ms s))∧Kb w w':=by
  have HO:Hid (Kr w 123 #[.agg #[.pointer (some ⟨gv,0,none⟩),.int .i64 (hd:Int)],.string s] (.tuple #[.int .i64 (trV ms hd s:Int),.int .i64 (trE ms s)])):=fun w' hb=>of_any15 (hd:=hd) (h.grow hb) hs
  have HRQ:Hid (∀w',Kb w w'→Rq w' r d s kv lv):=fun w' hb=>hr.grow hb
  have HDK:Hid (∀w',Kb w w'→Dk w' d gv hd):=fun w' hb=>hd'.grow hb
  clear h hs hd' hr;go_enter Tryz.func122,Tryz.ntmps122
  go_wp2
  refine wp_region_held_drew (S:=fun w'=>Kb w w') (by kernel_rfl) (below_drewN (Below.refl _ _) 1) (fun hHeld=>?_);refine tkp 0 (.pointer (some ⟨r,0,none⟩)) hHeld ?_;simp only [Act.put,zq1,zq2,zq4,zq5,zq6];refine tkp 1 (.pointer (some ⟨r,0,none⟩)) hHeld ?_;simp only [Act.put,zq1,zq2,zq3,zq4,zq5,zq6];refine tkp 2 (.pointer (some ⟨r,0,none⟩)) hHeld ?_;simp only [Act.put,zq1,zq2,zq3,zq4,zq5,zq6];refine tkg 3 (.pointer (some ⟨d,0,none⟩)) rfl (Or.inl ⟨by rfl,fun w hS=>by (have q1:=(HRQ.out _ hS).c0;go_simp)⟩) hHeld ?_;simp only [Act.put,zq1,zq2,zq3,zq4,zq5,zq6];refine tkp 4 (.pointer (some ⟨d,0,none⟩)) hHeld ?_;simp only [Act.put,zq1,zq2,zq3,zq4,zq5,zq6];refine tkp 5 (.pointer (some ⟨d,1,none⟩)) hHeld ?_;simp only [Act.put,zq1,zq2,zq3,zq4,zq5,zq6];refine tkg 6 (.agg #[.pointer (some ⟨gv,0,none⟩),.int .i64 (hd:Int)]) rfl (yieldsIf_load_mid rfl 104 (.tmp 11) rfl d 1 rfl [.pointer (some ⟨gv,0,none⟩),.int .i64 (hd:Int)] _ (fun w hS=>(HDK.out _ hS).row) Tryz.underlying104 rfl size_tr) hHeld ?_;simp only [Act.put,zq1,zq2,zq3,zq4,zq5,zq6];refine tkp 7 (.pointer (some ⟨r,0,none⟩)) hHeld ?_;simp only [Act.put,zq1,zq2,zq3,zq4,zq5,zq6];refine tkp 8 (.pointer (some ⟨r,0,none⟩)) hHeld ?_;simp only [Act.put,zq1,zq2,zq3,zq4,zq5,zq6];refine tkp 9 (.pointer (some ⟨r,1,none⟩)) hHeld ?_;simp only [Act.put,zq1,zq2,zq3,zq4,zq5,zq6];refine tkg 10 (.string s) rfl (Or.inl ⟨by rfl,fun w hS=>by (have q1:=(HRQ.out _ hS).c1;go_simp)⟩) hHeld ?_;simp only [Act.put,zq1,zq2,zq3,zq4,zq5,zq6];refine wpAnyH_ready (rs:=[11]) (by kernel_rfl) (by simp) ?_;refine AllReadyH.cons rfl (fun KQ hK=>?_) AllReadyH.nil;go_simp;refine (HO.out _ hHeld).mono ?_;rintro e z1 ⟨rfl,a1⟩;refine hK.out _ _ (grow_trans hHeld a1) (fun hHeld=>?_);clear hK KQ;refine tkp 12 (.tuple #[.int .i64 (trV ms hd s:Int),.int .i64 (trE ms s)]) hHeld ?_;simp only [Act.put,zq1,zq2,zq3,zq4,zq5,zq6];refine tkp 13 (.int .i64 (trV ms hd s:Int)) hHeld ?_;simp only [Act.put,zq1,zq2,zq3,zq4,zq5,zq6];refine tkp 14 (.int .i64 (trE ms s)) hHeld ?_;simp only [Act.put,zq1,zq2,zq3,zq4,zq5,zq6];refine tkp 15 (.int .i64 (trV ms hd s:Int)) hHeld ?_;simp only [Act.put,zq1,zq2,zq3,zq4,zq5,zq6];refine tkp 16 (.int .i64 (trE ms s)) hHeld ?_;simp only [Act.put,zq1,zq2,zq3,zq4,zq5,zq6];refine wpAnyH_done (by kernel_rfl) ?_ _;go_wp2
  go_ret;exact ⟨rfl,hHeld⟩

theorem noVersion_any (hd':Dk w d gv hd) (hr:Rq w r d s kv lv) (h:Hv w1 w X gv b g gs R ms cs fr) (hs:s.size≤maxLen):Kc 84 #[.pointer (some ⟨r,0,none⟩)] w fun e w'=>e=.returned (.int .i64 (vrE ms s))∧Kb w w':=by
  have HV:Hid (∀w',Kb w w'→Kc 95 #[.pointer (some ⟨gv,0,none⟩),.string s] w' fun e w''=>e=.returned (.tuple #[.int .i64 (nmAt ms s.data.toList:Int),.int .i64 (vrE ms s)])∧w''=w'):=fun w' hb=>vroot_any (h.grow hb) hs
  have HRQ:Hid (∀w',Kb w w'→Rq w' r d s kv lv):=fun w' hb=>hr.grow hb
  have HDK:Hid (∀w',Kb w w'→Dk w' d gv hd):=fun w' hb=>hd'.grow hb
  clear h hs hd' hr;go_enter Tryz.func84,Tryz.ntmps84
  go_wp2
  refine wp_region_held_drew (S:=fun w'=>Kb w w') (by kernel_rfl) (below_drewN (Below.refl _ _) 1) (fun hHeld=>?_);refine tkp 0 (.pointer (some ⟨r,0,none⟩)) hHeld ?_;simp only [Act.put,zq1,zq2,zq4,zq5,zq6];refine tkp 1 (.pointer (some ⟨r,0,none⟩)) hHeld ?_;simp only [Act.put,zq1,zq2,zq3,zq4,zq5,zq6];refine tkp 2 (.pointer (some ⟨r,0,none⟩)) hHeld ?_;simp only [Act.put,zq1,zq2,zq3,zq4,zq5,zq6];refine tkg 3 (.pointer (some ⟨d,0,none⟩)) rfl (Or.inl ⟨by rfl,fun w hS=>by (have q1:=(HRQ.out _ hS).c0;go_simp)⟩) hHeld ?_;simp only [Act.put,zq1,zq2,zq3,zq4,zq5,zq6];refine tkp 4 (.pointer (some ⟨d,0,none⟩)) hHeld ?_;simp only [Act.put,zq1,zq2,zq3,zq4,zq5,zq6];refine tkp 5 (.pointer (some ⟨d,1,none⟩)) hHeld ?_;simp only [Act.put,zq1,zq2,zq3,zq4,zq5,zq6];refine tkp 6 (.pointer (some ⟨d,1,none⟩)) hHeld ?_;simp only [Act.put,zq1,zq2,zq3,zq4,zq5,zq6];refine tkg 7 (.pointer (some ⟨gv,0,none⟩)) rfl (Or.inl ⟨by rfl,fun w hS=>by (have q1:=(HDK.out _ hS).c1;go_simp)⟩) hHeld ?_;simp only [Act.put,zq1,zq2,zq3,zq4,zq5,zq6];refine tkp 8 (.pointer (some ⟨r,0,none⟩)) hHeld ?_;simp only [Act.put,zq1,zq2,zq3,zq4,zq5,zq6];refine tkp 9 (.pointer (some ⟨r,0,none⟩)) hHeld ?_;simp only [Act.put,zq1,zq2,zq3,zq4,zq5,zq6];refine tkp 10 (.pointer (some ⟨r,1,none⟩)) hHeld ?_;simp only [Act.put,zq1,zq2,zq3,zq4,zq5,zq6];refine tkg 11 (.string s) rfl (Or.inl ⟨by rfl,fun w hS=>by (have q1:=(HRQ.out _ hS).c1;go_simp)⟩) hHeld ?_;simp only [Act.put,zq1,zq2,zq3,zq4,zq5,zq6];refine wpAnyH_ready (rs:=[12]) (by kernel_rfl) (by simp) ?_;refine AllReadyH.cons rfl (fun KQ hK=>?_) AllReadyH.nil;go_simp;refine (HV.out _ hHeld).mono ?_;rintro e z1 ⟨rfl,rfl⟩;refine hK.out _ _ (hHeld) (fun hHeld=>?_);clear hK KQ;refine tkp 13 (.tuple #[.int .i64 (nmAt ms s.data.toList:Int),.int .i64 (vrE ms s)]) hHeld ?_;simp only [Act.put,zq1,zq2,zq3,zq4,zq5,zq6];refine tkp 14 (.int .i64 (nmAt ms s.data.toList:Int)) hHeld ?_;simp only [Act.put,zq1,zq2,zq3,zq4,zq5,zq6];refine tkp 15 (.int .i64 (vrE ms s)) hHeld ?_;simp only [Act.put,zq1,zq2,zq3,zq4,zq5,zq6];refine tkp 16 (.int .i64 (nmAt ms s.data.toList:Int)) hHeld ?_;simp only [Act.put,zq1,zq2,zq3,zq4,zq5,zq6];refine tkp 17 (.int .i64 (vrE ms s)) hHeld ?_;simp only [Act.put,zq1,zq2,zq3,zq4,zq5,zq6];refine wpAnyH_done (by kernel_rfl) ?_ _;go_wp2
  go_ret;exact ⟨rfl,hHeld⟩

theorem noName_any (hr:Rq w r d s kv lv) (hs:s.size≤maxLen):Kc 92 #[.pointer (some ⟨r,0,none⟩)] w fun e w'=>e=.returned (.int .i64 (if nmOk s=true then 0 else 5))∧w'=w:=by
  have HN:=hidden (name_any s w hs);have c1:=hr.c1;clear hr hs;cases hn:nmOk s
  all_goals
    rw [hn] at HN;clear hn;go_enter Tryz.func92,Tryz.ntmps92
    go_wp2_with (go_at_call 167;refine HN.out.mono ?_;rintro e w' ⟨rfl,hx⟩;rw [hx];clear hx w')
    go_ret;exact ⟨rfl,rfl⟩

theorem noPlace_any (hd':Dk w d gv hd) (hr:Rq w r d s kv lv) (h:Hv w1 w X gv b g gs R ms cs fr):Kc 93 #[.pointer (some ⟨r,0,none⟩)] w fun e w'=>e=.returned (.int .i64 (if 16≤ms.length then 8 else 0))∧w'=w:=by
  have HL:=hidden (vlen_ok h);have c0:=hr.c0;have d1:=hd'.c1;clear h hd' hr;generalize ms.length=n at HL ⊢
  by_cases hn:16≤n
  · have q1:(16:Int)≤(n:Int):=by omega
    rw [if_pos hn];clear hn;go_enter Tryz.func93,Tryz.ntmps93
    go_wp2_with (go_at_call 168;refine HL.out.mono ?_;rintro e w' ⟨rfl,hx⟩;rw [hx];clear hx w')
    go_ret;exact ⟨rfl,rfl⟩
  · have q1: ¬(16:Int)≤(n:Int):=by omega
    rw [if_neg hn];clear hn;go_enter Tryz.func93,Tryz.ntmps93
    go_wp2_with (go_at_call 168;refine HL.out.mono ?_;rintro e w' ⟨rfl,hx⟩;rw [hx];clear hx w')
    go_ret;exact ⟨rfl,rfl⟩
end

end Go.Proofs.YtdjpigfibafokaaGreatDoor

namespace Go.Proofs.YtdjpigfibafokaaGreatDoor
variable {S fr:List Nat}
variable {T:Tre}
variable {b d g gs h room:Nat}
variable {cs:Lz}
variable {lv:Value}
variable {q:Int}
variable {w w0 w4 w5:World}
set_option maxHeartbeats 4000000
set_option maxRecDepth 20000
open Go.RowKit

def fst15:List (Nat×Int)→Int
  | []=>0
  | x::l=>if x.2=0 then fst15 l else x.2

theorem fst15_ok:∀ {l:List (Nat×Int)},(∀j,j<l.length→(l.getD j (0,0)).2=0)→fst15 l=0
  | [],_=>rfl
  | x::l,h=>by
    have h0:=h 0 (by simp);have hl:fst15 l=0:=fst15_ok fun j hj=>by have:=h (j+1) (by simpa using hj);simpa using this
    unfold fst15;rw [if_pos (by simpa using h0),hl]

theorem fst15_at:∀ {l:List (Nat×Int)} {i:Nat},i<l.length→(∀j,j<i→(l.getD j (0,0)).2=0)→(l.getD i (0,0)).2≠0→fst15 l=(l.getD i (0,0)).2
  | x::l,0,_,_,h=>by
    unfold fst15;rw [if_neg (by simpa using h)];rfl
  | x::l,i+1,hi,hb,h=>by
    have h0:=hb 0 (by omega);have:=fst15_at (l:=l) (i:=i) (by simpa using hi) (fun j hj=>by have:=hb (j+1) (by omega);simpa using this) (by simpa using h);unfold fst15;rw [if_pos (by simpa using h0),this];simp

theorem first_w (g n c r:Nat) (fs:List (Nat×Int)) (hn:fs.length=n) (h9:n≤9) (hk:∀i,i<n→(fs.getD i (0,0)).1∈[83,152,153,154])
    (hc:∀i,i<n→w.cell? ⟨g,i,none⟩=some (.func (.func (fs.getD i (0,0)).1) #[.pointer (some ⟨r,0,none⟩)] #[]))
    (hf:∀i,i<n→(∀j,j<i→(fs.getD j (0,0)).2=0)→∀w',Kb w w'→Kc (fs.getD i (0,0)).1 #[.pointer (some ⟨r,0,none⟩)] w' fun e w''=>e=.returned (.int .i64 (fs.getD i (0,0)).2)∧Below w'.heap.size w' w''):
    Kc 82 #[.slice (some ⟨g,0,none⟩) n c] w fun e w'=>e=.returned (.int .i64 (fst15 fs))∧Kb w w':=by
  have HC:=hidden hc;have HF:=hidden hf;have HN:=hidden hn;have HK:=hidden hk;clear hc hf hn hk;go_enter Tryz.func82,Tryz.ntmps82
  go_wp2_with fail
  go_loopw [8] (fun iv wr=>∃i:Nat,i≤n∧iv=.int .i64 (i:Int)∧Hid (∀j,j<i→(fs.getD j (0,0)).2=0)∧Hid (Kb w wr)) (fun iv _=>n-(intOf iv).toNat)
  case atStart=>exact ⟨0,by omega,rfl,fun j hj=>absurd hj (Nat.not_lt_zero j),Below.refl _ _⟩
  case round=>
    obtain ⟨i,hi,rfl,hz,hB⟩:=hrel
    by_cases hin:i<n
    · have q1:(i:Int)<(n:Int):=by omega
      have q0:(0:Int)≤(i:Int):=by omega
      have HCE:Hid (wr.cell? ⟨g,i,none⟩=some (.func (.func (fs.getD i (0,0)).1) #[.pointer (some ⟨r,0,none⟩)] #[])):=cell_later hB.out (HC.out i hin);have HM:=hidden (HF.out i hin hz.out wr hB.out);have HAt:=hidden (fun h=>fst15_at (by rw [HN.out];exact hin) hz.out h);have HZ1:Hid ((fs.getD i (0,0)).2=0→∀j,j<i+1→(fs.getD j (0,0)).2=0):=fun h j hj=>by
        rcases Nat.lt_succ_iff_lt_or_eq.1 hj with h' | rfl
        · exact hz.out j h'
        · exact h
      have hkk:=HK.out i hin;generalize hx:fs.getD i (0,0)=x at HCE HM HAt HZ1 hkk;obtain ⟨f,e⟩:=x;have hce:=HCE.out;clear HCE hx;have hk2:f=83∨f=152∨f=153∨f=154:=by simpa using hkk
      clear hkk
      by_cases he:e=0
      · subst he
        rcases hk2 with rfl | rfl | rfl | rfl
        all_goals
          go_wp2_with (refine HM.out.mono ?_;rintro e' w1 ⟨rfl,b1⟩;have HB1:=hidden (grow_trans hB.out b1);clear b1)
          exact ⟨⟨i+1,Nat.succ_le_of_lt hin,by go_num,(by first | exact HZ1.out rfl | exact HZ1.out trivial),HB1.out⟩,by simp [intOf];omega⟩
      · have HE:=hidden (HAt.out he)
        rcases hk2 with rfl | rfl | rfl | rfl
        all_goals
          go_wp2_with (refine HM.out.mono ?_;rintro e' w1 ⟨rfl,b1⟩;have HB1:=hidden (grow_trans hB.out b1);clear b1)
          go_ret;exact ⟨by rw [HE.out];rfl,HB1.out⟩
    · obtain rfl:i=n:=by omega
      have q1: ¬(i:Int)<(i:Int):=by omega
      have HE:=hidden (fst15_ok (l:=fs) (by rw [HN.out];exact hz.out));go_wp2
      go_ret;exact ⟨by rw [HE.out];rfl,hB.out⟩

theorem first_p (g n c r:Nat) (fs:List (Nat×Int)) (hn:fs.length=n) (h9:n≤9) (hk:∀i,i<n→(fs.getD i (0,0)).1∈[83,140,122])
    (hc:∀i,i<n→w.cell? ⟨g,i,none⟩=some (.func (.func (fs.getD i (0,0)).1) #[.pointer (some ⟨r,0,none⟩)] #[]))
    (hf:∀i,i<n→(∀j,j<i→(fs.getD j (0,0)).2=0)→∀w',Kb w w'→Kc (fs.getD i (0,0)).1 #[.pointer (some ⟨r,0,none⟩)] w' fun e w''=>e=.returned (.int .i64 (fs.getD i (0,0)).2)∧Below w'.heap.size w' w''):
    Kc 82 #[.slice (some ⟨g,0,none⟩) n c] w fun e w'=>e=.returned (.int .i64 (fst15 fs))∧Kb w w':=by
  have HC:=hidden hc;have HF:=hidden hf;have HN:=hidden hn;have HK:=hidden hk;clear hc hf hn hk;go_enter Tryz.func82,Tryz.ntmps82
  go_wp2_with fail
  go_loopw [8] (fun iv wr=>∃i:Nat,i≤n∧iv=.int .i64 (i:Int)∧Hid (∀j,j<i→(fs.getD j (0,0)).2=0)∧Hid (Kb w wr)) (fun iv _=>n-(intOf iv).toNat)
  case atStart=>exact ⟨0,by omega,rfl,fun j hj=>absurd hj (Nat.not_lt_zero j),Below.refl _ _⟩
  case round=>
    obtain ⟨i,hi,rfl,hz,hB⟩:=hrel
    by_cases hin:i<n
    · have q1:(i:Int)<(n:Int):=by omega
      have q0:(0:Int)≤(i:Int):=by omega
      have HCE:Hid (wr.cell? ⟨g,i,none⟩=some (.func (.func (fs.getD i (0,0)).1) #[.pointer (some ⟨r,0,none⟩)] #[])):=cell_later hB.out (HC.out i hin);have HM:=hidden (HF.out i hin hz.out wr hB.out);have HAt:=hidden (fun h=>fst15_at (by rw [HN.out];exact hin) hz.out h);have HZ1:Hid ((fs.getD i (0,0)).2=0→∀j,j<i+1→(fs.getD j (0,0)).2=0):=fun h j hj=>by
        rcases Nat.lt_succ_iff_lt_or_eq.1 hj with h' | rfl
        · exact hz.out j h'
        · exact h
      have hkk:=HK.out i hin;generalize hx:fs.getD i (0,0)=x at HCE HM HAt HZ1 hkk;obtain ⟨f,e⟩:=x;have hce:=HCE.out;clear HCE hx;have hk2:f=83∨f=140∨f=122:=by simpa using hkk
      clear hkk
      by_cases he:e=0
      · subst he
        rcases hk2 with rfl | rfl | rfl
        all_goals
          go_wp2_with (refine HM.out.mono ?_;rintro e' w1 ⟨rfl,b1⟩;have HB1:=hidden (grow_trans hB.out b1);clear b1)
          exact ⟨⟨i+1,Nat.succ_le_of_lt hin,by go_num,(by first | exact HZ1.out rfl | exact HZ1.out trivial),HB1.out⟩,by simp [intOf];omega⟩
      · have HE:=hidden (HAt.out he)
        rcases hk2 with rfl | rfl | rfl
        all_goals
          go_wp2_with (refine HM.out.mono ?_;rintro e' w1 ⟨rfl,b1⟩;have HB1:=hidden (grow_trans hB.out b1);clear b1)
          go_ret;exact ⟨by rw [HE.out];rfl,HB1.out⟩
    · obtain rfl:i=n:=by omega
      have q1: ¬(i:Int)<(i:Int):=by omega
      have HE:=hidden (fst15_ok (l:=fs) (by rw [HN.out];exact hz.out));go_wp2
      go_ret;exact ⟨by rw [HE.out];rfl,hB.out⟩

theorem first_s (g n c r:Nat) (fs:List (Nat×Int)) (hn:fs.length=n) (h9:n≤9) (hk:∀i,i<n→(fs.getD i (0,0)).1∈[83,92,93])
    (hc:∀i,i<n→w.cell? ⟨g,i,none⟩=some (.func (.func (fs.getD i (0,0)).1) #[.pointer (some ⟨r,0,none⟩)] #[]))
    (hf:∀i,i<n→(∀j,j<i→(fs.getD j (0,0)).2=0)→∀w',Kb w w'→Kc (fs.getD i (0,0)).1 #[.pointer (some ⟨r,0,none⟩)] w' fun e w''=>e=.returned (.int .i64 (fs.getD i (0,0)).2)∧Below w'.heap.size w' w''):
    Kc 82 #[.slice (some ⟨g,0,none⟩) n c] w fun e w'=>e=.returned (.int .i64 (fst15 fs))∧Kb w w':=by
  have HC:=hidden hc;have HF:=hidden hf;have HN:=hidden hn;have HK:=hidden hk;clear hc hf hn hk;go_enter Tryz.func82,Tryz.ntmps82
  go_wp2_with fail
  go_loopw [8] (fun iv wr=>∃i:Nat,i≤n∧iv=.int .i64 (i:Int)∧Hid (∀j,j<i→(fs.getD j (0,0)).2=0)∧Hid (Kb w wr)) (fun iv _=>n-(intOf iv).toNat)
  case atStart=>exact ⟨0,by omega,rfl,fun j hj=>absurd hj (Nat.not_lt_zero j),Below.refl _ _⟩
  case round=>
    obtain ⟨i,hi,rfl,hz,hB⟩:=hrel
    by_cases hin:i<n
    · have q1:(i:Int)<(n:Int):=by omega
      have q0:(0:Int)≤(i:Int):=by omega
      have HCE:Hid (wr.cell? ⟨g,i,none⟩=some (.func (.func (fs.getD i (0,0)).1) #[.pointer (some ⟨r,0,none⟩)] #[])):=cell_later hB.out (HC.out i hin);have HM:=hidden (HF.out i hin hz.out wr hB.out);have HAt:=hidden (fun h=>fst15_at (by rw [HN.out];exact hin) hz.out h);have HZ1:Hid ((fs.getD i (0,0)).2=0→∀j,j<i+1→(fs.getD j (0,0)).2=0):=fun h j hj=>by
        rcases Nat.lt_succ_iff_lt_or_eq.1 hj with h' | rfl
        · exact hz.out j h'
        · exact h
      have hkk:=HK.out i hin;generalize hx:fs.getD i (0,0)=x at HCE HM HAt HZ1 hkk;obtain ⟨f,e⟩:=x;have hce:=HCE.out;clear HCE hx;have hk2:f=83∨f=92∨f=93:=by simpa using hkk
      clear hkk
      by_cases he:e=0
      · subst he
        rcases hk2 with rfl | rfl | rfl
        all_goals
          go_wp2_with (refine HM.out.mono ?_;rintro e' w1 ⟨rfl,b1⟩;have HB1:=hidden (grow_trans hB.out b1);clear b1)
          exact ⟨⟨i+1,Nat.succ_le_of_lt hin,by go_num,(by first | exact HZ1.out rfl | exact HZ1.out trivial),HB1.out⟩,by simp [intOf];omega⟩
      · have HE:=hidden (HAt.out he)
        rcases hk2 with rfl | rfl | rfl
        all_goals
          go_wp2_with (refine HM.out.mono ?_;rintro e' w1 ⟨rfl,b1⟩;have HB1:=hidden (grow_trans hB.out b1);clear b1)
          go_ret;exact ⟨by rw [HE.out];rfl,HB1.out⟩
    · obtain rfl:i=n:=by omega
      have q1: ¬(i:Int)<(i:Int):=by omega
      have HE:=hidden (fst15_ok (l:=fs) (by rw [HN.out];exact hz.out));go_wp2
      go_ret;exact ⟨by rw [HE.out];rfl,hB.out⟩

theorem first_v (g n c r:Nat) (fs:List (Nat×Int)) (hn:fs.length=n) (h9:n≤9) (hk:∀i,i<n→(fs.getD i (0,0)).1∈[83,84])
    (hc:∀i,i<n→w.cell? ⟨g,i,none⟩=some (.func (.func (fs.getD i (0,0)).1) #[.pointer (some ⟨r,0,none⟩)] #[]))
    (hf:∀i,i<n→(∀j,j<i→(fs.getD j (0,0)).2=0)→∀w',Kb w w'→Kc (fs.getD i (0,0)).1 #[.pointer (some ⟨r,0,none⟩)] w' fun e w''=>e=.returned (.int .i64 (fs.getD i (0,0)).2)∧Below w'.heap.size w' w''):
    Kc 82 #[.slice (some ⟨g,0,none⟩) n c] w fun e w'=>e=.returned (.int .i64 (fst15 fs))∧Kb w w':=by
  have HC:=hidden hc;have HF:=hidden hf;have HN:=hidden hn;have HK:=hidden hk;clear hc hf hn hk;go_enter Tryz.func82,Tryz.ntmps82
  go_wp2_with fail
  go_loopw [8] (fun iv wr=>∃i:Nat,i≤n∧iv=.int .i64 (i:Int)∧Hid (∀j,j<i→(fs.getD j (0,0)).2=0)∧Hid (Kb w wr)) (fun iv _=>n-(intOf iv).toNat)
  case atStart=>exact ⟨0,by omega,rfl,fun j hj=>absurd hj (Nat.not_lt_zero j),Below.refl _ _⟩
  case round=>
    obtain ⟨i,hi,rfl,hz,hB⟩:=hrel
    by_cases hin:i<n
    · have q1:(i:Int)<(n:Int):=by omega
      have q0:(0:Int)≤(i:Int):=by omega
      have HCE:Hid (wr.cell? ⟨g,i,none⟩=some (.func (.func (fs.getD i (0,0)).1) #[.pointer (some ⟨r,0,none⟩)] #[])):=cell_later hB.out (HC.out i hin);have HM:=hidden (HF.out i hin hz.out wr hB.out);have HAt:=hidden (fun h=>fst15_at (by rw [HN.out];exact hin) hz.out h);have HZ1:Hid ((fs.getD i (0,0)).2=0→∀j,j<i+1→(fs.getD j (0,0)).2=0):=fun h j hj=>by
        rcases Nat.lt_succ_iff_lt_or_eq.1 hj with h' | rfl
        · exact hz.out j h'
        · exact h
      have hkk:=HK.out i hin;generalize hx:fs.getD i (0,0)=x at HCE HM HAt HZ1 hkk;obtain ⟨f,e⟩:=x;have hce:=HCE.out;clear HCE hx;have hk2:f=83∨f=84:=by simpa using hkk
      clear hkk
      by_cases he:e=0
      · subst he
        rcases hk2 with rfl | rfl
        all_goals
          go_wp2_with (refine HM.out.mono ?_;rintro e' w1 ⟨rfl,b1⟩;have HB1:=hidden (grow_trans hB.out b1);clear b1)
          exact ⟨⟨i+1,Nat.succ_le_of_lt hin,by go_num,(by first | exact HZ1.out rfl | exact HZ1.out trivial),HB1.out⟩,by simp [intOf];omega⟩
      · have HE:=hidden (HAt.out he)
        rcases hk2 with rfl | rfl
        all_goals
          go_wp2_with (refine HM.out.mono ?_;rintro e' w1 ⟨rfl,b1⟩;have HB1:=hidden (grow_trans hB.out b1);clear b1)
          go_ret;exact ⟨by rw [HE.out];rfl,HB1.out⟩
    · obtain rfl:i=n:=by omega
      have q1: ¬(i:Int)<(i:Int):=by omega
      have HE:=hidden (fst15_ok (l:=fs) (by rw [HN.out];exact hz.out));go_wp2
      go_ret;exact ⟨by rw [HE.out];rfl,hB.out⟩

end Go.Proofs.YtdjpigfibafokaaGreatDoor
