/- A root at hand, and what Put and Cost make of it: what the laws ask. -/
import Derived.Test.YtdjpigfibafokaaGreatDoorDz01
import Derived.Test.YtdjpigfibafokaaGreatDoorDz22
import Derived.Test.YtdjpigfibafokaaGreatDoorDz14
import Derived.Shelf.SlIter.Nil
import Derived.Shelf.SortM.Plain
import Derived.Shelf.SortM.SortNone
import Derived.Test.YtdjpigfibafokaaGreatDoorProg
namespace Go.Proofs.YtdjpigfibafokaaGreatDoor
variable {S fr:List Nat}
variable {T:Tre}
variable {b g gs h n room x:Nat}
variable {cs:Lz}
variable {w w' w0:World}
set_option maxRecDepth 20000
open Go.RowKit

theorem con_le (i:Nat) (p:Nat×Ce):con i p≤2:=by
  unfold con;split
  · split <;> split <;> omega
  · omega
theorem ns_le (cs:Lz) (i:Nat):ns cs i≤2 * cs.length:=by
  induction cs with
  | nil=>simp [ns]
  | cons p r ih=>
    have h:=con_le i p;simp only [ns,List.map_cons,List.sum_cons,List.length_cons] at ih ⊢;omega
theorem Wf.ccLe (W:Wf cs []) (i b:Nat) (h:Go.Proofs.YtdjpigfibafokaaGreatDoor.own cs [] i≤b):cc cs i≤2 * cs.length+b:=by
  have h1:=W.own i;have h2:=W.ab i;have h3:=ns_le cs i;rw [List.count_nil] at h1;omega

structure Rt (cs:Lz) (h:Nat) (T:Tre):Prop where
  tree:IsT cs h T
  dp:(sdC cs h).kind=2→(sdC cs h).dp=0
  own:h=0∨0<own cs [] (h-1)

theorem Rt.root (r:Rt cs h T):vRt true (cot cs h) (cat cs h) h=0:=by
  unfold vRt;rw [if_pos rfl]
  by_cases h0:(h:Int)=0
  · rw [if_pos h0]
  · rw [if_neg h0]
    rcases r.tree.occ with e | ⟨e1,e2⟩
    · exact absurd (by omega) h0
    · have hc:cot cs (h:Int)=cc cs (h-1):=by rw [cot,if_pos (by omega),show ((h:Int)-1).toNat=h-1 by omega]
      rw [hc,if_neg (by omega)];have hd:=r.dp;rw [← cat_nat] at hd;unfold vDp;rw [if_pos rfl]
      by_cases k:(cat cs (h:Int)).kind=2
      · rw [if_pos k,hd k]
        rfl
      · rw [if_neg k]
        rfl
theorem Rt.refuse (r:Rt cs h T) {n:Nat} (hn:n≤1024):vRf true (cot cs h) (cat cs h) h n=0:=by
  unfold vRf;rw [if_pos rfl,if_neg (by omega)];unfold vAh;rw [if_pos r.root,if_neg];rintro ⟨h0,q⟩;have h1:h≠0:=fun e=>h0 (by omega)
  have ho:=r.own.resolve_left h1;have hc:cot cs (h:Int)=cc cs (h-1):=by rw [cot,if_pos (by omega),show ((h:Int)-1).toNat=h-1 by omega]
  rw [hc,cat_nat,sdC,if_neg h1] at q;unfold Go.Proofs.YtdjpigfibafokaaGreatDoor.own at ho;rw [List.count_nil] at ho;omega
theorem Rt.zero (cs:Lz):Rt cs 0 .emp:=⟨rfl,fun k=>absurd k (by show ¬zc.kind=2;decide),.inl rfl⟩

def upE (E:List Ent) (K bs:Lq):List Ent:=(K,bs)::E.filter fun e=>!(e.1 == K)

theorem up_same:∀(l:List Ent) (K bs:Lq),(l.Pairwise fun a b=>a.1≠b.1)→(K,bs)∈l→l.Perm (upE l K bs)
  | [],_,_,_,h=>by cases h
  | e::r,K,bs,hp,hm=>by
    obtain ⟨h1,h2⟩:=List.pairwise_cons.1 hp;unfold upE;rcases List.mem_cons.1 hm with q | q
    · subst q
      have hr:r.filter (fun e:Ent=>!(e.1 == K))=r:=List.filter_eq_self.2 (fun x hx=>by
        have:=h1 x hx;simp only [Bool.not_eq_true',beq_eq_false_iff_ne,ne_eq];exact fun e=>this e.symm)
      rw [List.filter_cons,if_neg (by simp),hr]
    · have hne:e.1≠K:=h1 _ q
      rw [List.filter_cons,if_pos (by simpa using hne)];exact (List.Perm.cons e (up_same r K bs h2 q)).trans (List.Perm.swap _ _ _)

def costN (T:Tre) (K bs:Lq) (ss:List Nat):Nat:=if T.efin K=[(K,bs)] then 0 else 1+ss.length

structure PaIs (cs:Lz) (fr:List Nat) (T:Tre) (h:Nat) (K bs:Lq) (ss:List Nat) (top:Nat) (cs':Lz) (fr':List Nat) (T':Tre):Prop where
  rt:Rt cs' top T'
  ents:T'.ents.Perm (upE T.ents K bs)
  pos:1≤top
  own:∀i,own cs' [] i+(if h=i+1 then 1 else 0)=own cs [] i+(if top=i+1 then 1 else 0)
  keep:∀x X,IsT cs x X→(x=0∨0<cc cs' (x-1))→IsT cs' x X
  noc:noc cs'≤noc cs+costN T K bs ss
  same:T.efin K=[(K,bs)]→top=h∧cs'=cs∧fr'=fr
  just:h=0∨h∈ss→Go.Proofs.YtdjpigfibafokaaGreatDoor.noc cs'=Go.Proofs.YtdjpigfibafokaaGreatDoor.noc cs+costN T K bs ss
  new:T.efin K≠[(K,bs)]→cc cs (top-1)=0
  len:cs'.length≤cs.length+costN T K bs ss

def PaPost (w0:World) (S:List Nat) (g gs room:Nat) (cs:Lz) (fr:List Nat) (T:Tre) (h:Nat) (K bs:Lq) (ss:List Nat) (e:Ending) (w':World):Prop:=
  ∃(top:Nat) (cs':Lz) (fr':List Nat) (T':Tre),e=.returned (.tuple #[.int .i64 (top:Int),.int .i64 0])∧PaIs cs fr T h K bs ss top cs' fr' T'∧Hs w0 S w' g gs room cs' fr'

theorem efin_some (hT:IsT cs h T) {K bs:Lq} (hs:T.efin K=[(K,bs)]):h≠0:=fun e=>by
  subst e;cases T with
  | emp=>simp [Tre.efin] at hs
  | lf _ _=>have:=hT.1;omega
  | nd _ _ _ _ _=>have:=hT.1;omega

theorem put_any (H:Hs w0 S w g gs room cs fr) {h:Nat} {T:Tre} (r:Rt cs h T) {K:Lq} (hK:Key K) {u:Value} {bs:Lq} (hu:Kq S w0 (fun w'=>Reads w' u bs)) (hL:Kq S w0 Laid) (hl:bs.length≤1024) (hb:∀i,own cs [] i≤1000000) (hf:noc cs+258≤room) {ss:List Nat} (hss:BesIs K T h ss):
    Kc 90 #[.pointer (some ⟨g,0,none⟩),.int .i64 (h:Int),.agg (B K),u] w (PaPost w0 S g gs room cs fr T h K bs ss):=by
  by_cases hsm:T.efin K=[(K,bs)]
  · have h0:=efin_some r.tree hsm
    refine (put_same H h T r.tree K hK u bs (H.kq hu) (r.refuse hl) r.root hf hsm).mono ?_;rintro e w' ⟨rfl,b⟩;have hp:=up_same T.ents K bs (tree_ok H.2 T h r.tree).apart (efin_mem K T _ (by rw [hsm];simp));exact ⟨h,cs,fr,T,rfl,⟨r,hp,by omega,fun _=>rfl,fun x X hX _=>hX,Nat.le_add_right _ _,fun _=>⟨rfl,rfl,rfl⟩,fun _=>by simp [costN,hsm],fun q=>absurd hsm q,Nat.le_add_right _ _⟩,H.grow b⟩
  · have hbo:BesOk cs T.ents K ss:=by
      obtain ⟨ss2,b1,b2⟩:=bes_ex H.2 K hK r.tree r.dp;have:ss=ss2:=by
        rcases hss with ⟨e1,e2⟩ | ⟨b,e1,e2⟩ | ⟨k,b,c,e1,e2,e3,e4,e5,e6⟩ <;> rcases b1 with ⟨f1,f2⟩ | ⟨b',f1,f2⟩ | ⟨k',b',c',f1,f2,f3,f4,f5,f6⟩
        · rw [e2,f2]
        · rw [e2,f2]
        · rw [e1] at f1;cases f1
        · rw [e2,f2]
        · rw [e2,f2]
        · rw [e1] at f1
          injection f1 with f1 _;injection f1 with f1 _;exact absurd f1.symm f2
        · rw [e1] at f1;cases f1
        · rw [e1] at f1
          injection f1 with f1 _;injection f1 with f1 _;exact absurd f1 e2
        · rw [e1] at f1
          injection f1 with f1 _;injection f1 with f1 _;subst f1;rw [e6,f6,e3.one f3]
      rw [this];exact b2
    obtain ⟨_,hr1,hr2⟩:=H.sizes;have hct:∀i,cc cs i+257<1073741824:=fun i=>by
      have:=H.2.ccLe i 1000000 (hb i);omega
    refine (put_new H h T r.tree K hK u bs hu hL (r.refuse hl) hl r.root r.own hf hsm ss hss hbo hct).mono ?_;rintro e w' ⟨top,cs',fr',rfl,_,p,hh⟩;obtain ⟨U,u1,u2⟩:=p.tree;refine ⟨top,cs',fr',U,rfl,⟨⟨u1,p.dp,.inr ?_⟩,u2,p.new.1,p.own,p.keep,by rw [costN,if_neg hsm];exact p.noc,fun q=>absurd q hsm,fun q=>by rw [costN,if_neg hsm];exact p.just q,fun _=>p.new.2,by rw [costN,if_neg hsm];exact p.len⟩,hh⟩;have h1:=p.own (top-1);have h2:=p.new;rw [if_pos (show top=top-1+1 by omega)] at h1
    by_cases e:h=top-1+1
    · exfalso
      have ho:=r.own.resolve_left (by omega);rw [show h-1=top-1 by omega] at ho;unfold Go.Proofs.YtdjpigfibafokaaGreatDoor.own at ho;omega
    · rw [if_neg e] at h1
      omega

theorem Rt.bes (r:Rt cs h T) (W:Wf cs []) {K:Lq} (hK:Key K):∃ss,BesIs K T h ss∧ss.length≤256:=by
  obtain ⟨ss,b1,b2⟩:=bes_ex W K hK r.tree r.dp;exact ⟨ss,b1,b2.len⟩
theorem Rt.dig (r:Rt cs h T) (W:Wf cs []):sdD cs h=rt 256 0 T.ents:=(tree_ok W T h r.tree).dig 0 r.dp
theorem hs_new (room:Nat) (w:World) (h1:1≤room) (h2:room≤65536):Kc 47 #[.int .i64 (room:Int)] w fun e w'=>∃g gs,e=.returned (.tuple #[.pointer (some ⟨g,0,none⟩),.int .i64 0])∧Hs w [] w' g gs room [] []:=by
  refine (newS_ok room w h1 h2).mono ?_;rintro e w' ⟨g,gs,rfl,hg,hgs,s,b⟩;refine ⟨g,gs,rfl,⟨_,_,s,Mod.of_below b _,fun k hk=>.inr ?_⟩,Wf.new⟩;rcases stB_mem.1 hk with rfl | hk | ⟨i,hk⟩
  · exact hg
  · rcases slB_mem.1 hk with rfl | hk | hk
    · exact hgs
    · cases hk
    · cases hk
  · simp only [ce,List.getElem?_nil,Option.getD_none] at hk
    cases hk

theorem Hs.low (h:Hs w [] w' g gs room cs fr):Kb w w':=h.mod.below0

end Go.Proofs.YtdjpigfibafokaaGreatDoor

namespace Go.Proofs.YtdjpigfibafokaaGreatDoor
variable {S fr:List Nat}
variable {T:Tre}
variable {b g gs h n room x:Nat}
variable {cs:Lz}
variable {w w' w0:World}
set_option maxRecDepth 20000
open Go.RowKit

def Hz (w1 w:World) (X:List Nat) (g gs R:Nat) (cs:Lz) (fr:List Nat):Prop:=
  (∃vp vf,Stm w g gs vp vf R cs fr∧∀k∈stB g gs vp vf cs,w1.heap.size≤k∧k ∉ X)∧Kb w1 w∧(∀x∈X,w1.heap.size≤x∧x<w.heap.size)∧Wf cs []
def Kx (X:List Nat) (x:Nat) (w w':World):Prop:=∀y∈X,y≠x→w'.heap[y]?=w.heap[y]?
theorem Kx.trans {X:List Nat} {w'':World} (h:Kx X x w w') (k:Kx X x w' w''):Kx X x w w'':=fun y hy hn=>(k y hy hn).trans (h y hy hn)

section
variable {w1 w w':World} {X:List Nat} {g gs R:Nat} {cs:Lz} {fr:List Nat}
theorem Hz.low (h:Hz w1 w X g gs R cs fr):Kb w1 w:=h.2.1
theorem Hz.wf (h:Hz w1 w X g gs R cs fr):Wf cs []:=h.2.2.2
theorem Hz.grow (h:Hz w1 w X g gs R cs fr) (hb:Kb w w'):Hz w1 w' X g gs R cs fr:=by
  obtain ⟨⟨vp,vf,s,n⟩,h1,h2,h3⟩:=h;exact ⟨⟨vp,vf,s.grow hb,n⟩,grow_trans h1 hb,fun x hx=>⟨(h2 x hx).1,Nat.lt_of_lt_of_le (h2 x hx).2 hb.size⟩,h3⟩
theorem Hz.kx (h:Hz w1 w X g gs R cs fr) (hb:Kb w w') (x:Nat):Kx X x w w':=fun y hy _=>hb.block y (h.2.2.1 y hy).2
theorem Hz.hs (h:Hz w1 w X g gs R cs fr):∃S,Hs w S w g gs R cs fr∧(∀P:World→Prop,(∀w',Kb w1 w'→P w')→Kq S w P)∧∀w' cs' fr',Hs w S w' g gs R cs' fr'→Hz w1 w' X g gs R cs' fr'∧∀x,Kx X x w w':=by
  obtain ⟨⟨vp,vf,s,n⟩,h1,h2,h4⟩:=h;refine ⟨stB g gs vp vf cs,Hs.here s h4,fun P hP=>Kq.of_low hP h1 (fun k hk=>(n k hk).1),fun w' cs' fr' k=>?_⟩;obtain ⟨⟨vp',vf',s',m',n'⟩,W'⟩:=k;have hk:∀x,Kx X x w w':=fun _ y hy _=>m'.block y (h2 y hy).2 (fun e=>(n y e).2 hy)
  refine ⟨⟨⟨vp',vf',s',fun q hq=>?_⟩,h1.trans (m'.below (fun q hq=>(n q hq).1) h1.size),fun x hx=>⟨(h2 x hx).1,Nat.lt_of_lt_of_le (h2 x hx).2 m'.size⟩,W'⟩,hk⟩;rcases n' q hq with e | e
  · exact n q e
  · exact ⟨Nat.le_trans h1.size e,fun hx=>by have:=(h2 q hx).2;omega⟩
theorem Hz.turn (h:Hz w1 w X g gs R cs fr) (hx:x∈X) (hg:w.grownBy w' (some x)):Hz w1 w' X g gs R cs fr∧Kx X x w w':=by
  obtain ⟨⟨vp,vf,s,n⟩,h1,h2,h3⟩:=h;have m:Mod [x] w w':=Mod.of_some hg (by simp);refine ⟨⟨⟨vp,vf,s.mod m (fun k hk e=>(n k hk).2 (by rw [List.mem_singleton.1 e];exact hx)),n⟩,h1.trans (m.below (fun k hk=>by rw [List.mem_singleton.1 hk];exact (h2 x hx).1) h1.size),fun y hy=>⟨(h2 y hy).1,Nat.lt_of_lt_of_le (h2 y hy).2 m.size⟩,h3⟩,fun y hy hn=>?_⟩;exact m.block y (h2 y hy).2 (fun e=>hn (List.mem_singleton.1 e))
theorem Hz.new (H:Hs w1 [] w g gs R cs fr):Hz w1 w [] g gs R cs fr:=by
  have hl:=H.low;obtain ⟨⟨vp,vf,s,m,n⟩,W⟩:=H;refine ⟨⟨vp,vf,s,fun k hk=>?_⟩,hl,(fun x hx=>nomatch hx),W⟩;rcases n k hk with e | e
  · cases e
  · exact ⟨e,by simp⟩
theorem Hz.add (h:Hz w1 w X g gs R cs fr) (hb:Kb w w') (hx:w.heap.size≤x) (hlt:x<w'.heap.size):Hz w1 w' (x::X) g gs R cs fr:=by
  obtain ⟨⟨vp,vf,s,n⟩,h1,h2,h3⟩:=h;refine ⟨⟨vp,vf,s.grow hb,fun k hk=>⟨(n k hk).1,fun e=>?_⟩⟩,grow_trans h1 hb,fun y hy=>?_,h3⟩
  · have:=s.lts k hk
    rcases List.mem_cons.1 e with e | e
    · omega
    · exact (n k hk).2 e
  · rcases List.mem_cons.1 hy with e | e
    · subst e
      exact ⟨Nat.le_trans h1.size hx,hlt⟩
    · exact ⟨(h2 y e).1,Nat.lt_of_lt_of_le (h2 y e).2 hb.size⟩
theorem Hz.vw (h:Hz w1 w X g gs R cs fr):Vw w (.pointer (some ⟨g,0,none⟩)) true (cot cs) (cat cs):=by
  obtain ⟨S,hs,_⟩:=h.hs;exact hs.vw
end

theorem blk_at {t:TypeId} {cs:Array Value} (h:Blk w g t cs) (e:w'.heap[g]?=w.heap[g]?):Blk w' g t cs:=by
  unfold Blk at h ⊢;rw [e];exact h
theorem vm_at {ms:Nms} (h:VM w b n ms) (e:w'.heap[b]?=w.heap[b]?):VM w' b n ms:=by
  obtain ⟨D,⟨es,clock,k1,k2⟩,h3⟩:=h;exact ⟨D,⟨es,clock,e.trans k1,k2⟩,h3⟩

structure Hv (w1 w:World) (X:List Nat) (gv b g gs R:Nat) (ms:Nms) (cs:Lz) (fr:List Nat):Prop where
  hz:Hz w1 w X g gs R cs fr
  gx:gv∈X
  bx:b∈X
  blk:Blk w gv 192 #[.pointer (some ⟨gv,0,none⟩),.pointer (some ⟨g,0,none⟩),.map (some b)]
  vm:VM w b ms.length ms

section
variable {w1 w w':World} {X:List Nat} {gv b g gs R:Nat} {ms:Nms} {cs:Lz} {fr:List Nat}
theorem Hv.low (h:Hv w1 w X gv b g gs R ms cs fr):Kb w1 w:=h.hz.low
theorem Hv.wf (h:Hv w1 w X gv b g gs R ms cs fr):Wf cs []:=h.hz.wf
theorem Hv.grow (h:Hv w1 w X gv b g gs R ms cs fr) (hb:Kb w w'):Hv w1 w' X gv b g gs R ms cs fr:=⟨h.hz.grow hb,h.gx,h.bx,h.blk.grow hb,h.vm.grow hb⟩
theorem Hv.ne (h:Hv w1 w X gv b g gs R ms cs fr):gv≠b:=(h.vm.notCells h.blk).symm
theorem Hv.hs (h:Hv w1 w X gv b g gs R ms cs fr):∃S,Hs w S w g gs R cs fr∧(∀P:World→Prop,(∀w',Kb w1 w'→P w')→Kq S w P)∧∀w' cs' fr',Hs w S w' g gs R cs' fr'→Hv w1 w' X gv b g gs R ms cs' fr'∧∀x,Kx X x w w':=by
  obtain ⟨S,h1,h2,h3⟩:=h.hz.hs;refine ⟨S,h1,h2,fun w' cs' fr' k=>?_⟩;obtain ⟨k1,k2⟩:=h3 w' cs' fr' k;exact ⟨⟨k1,h.gx,h.bx,blk_at h.blk (k2 b gv h.gx h.ne),vm_at h.vm (k2 gv b h.bx h.ne.symm)⟩,k2⟩
theorem Hv.turn (h:Hv w1 w X gv b g gs R ms cs fr) {n:Nat} {ms':Nms} (hm:VM w' b n ms') (hg:w.grownBy w' (some b)):Hv w1 w' X gv b g gs R ms' cs fr∧Kx X b w w':=by
  obtain ⟨k1,k2⟩:=h.hz.turn h.bx hg;exact ⟨⟨k1,h.gx,h.bx,blk_at h.blk (k2 gv h.gx h.ne),hm.just⟩,k2⟩
theorem Hv.kx (h:Hv w1 w X gv b g gs R ms cs fr) (hb:Kb w w') (x:Nat):Kx X x w w':=h.hz.kx hb x
theorem Hv.c0 (h:Hv w1 w X gv b g gs R ms cs fr):w.cell? ⟨gv,0,none⟩=some (.pointer (some ⟨gv,0,none⟩)):=by rw [h.blk.cell];rfl
theorem Hv.c1 (h:Hv w1 w X gv b g gs R ms cs fr):w.cell? ⟨gv,1,none⟩=some (.pointer (some ⟨g,0,none⟩)):=by rw [h.blk.cell];rfl
theorem Hv.c2 (h:Hv w1 w X gv b g gs R ms cs fr):w.cell? ⟨gv,2,none⟩=some (.map (some b)):=by rw [h.blk.cell];rfl
end

end Go.Proofs.YtdjpigfibafokaaGreatDoor

namespace Go.Proofs.YtdjpigfibafokaaGreatDoor
variable {S fr:List Nat}
variable {T:Tre}
variable {b g gs h n room x:Nat}
variable {cs:Lz}
variable {w w' w0:World}
set_option maxRecDepth 20000
open Go.Shelf
def keysL_ren:Go.Shelf.Ren:=⟨fun | 7=>139 | 10=>211 | n=>n,fun | 23=>190 | 26=>9 | 3=>3 | 28=>225 | 0=>0 | 27=>224 | 33=>210 | 4=>4 | n=>n,fun | n=>n⟩
theorem keysL:Go.Proofs.SlLaysZ.n7 Tryz.prog keysL_ren:={
  mixed:=by kernel_rfl
  f7:=⟨Tryz.f139.name,by decide,Tryz.func139.trans (congrArg some (by kernel_rfl))⟩
  f10:=⟨Tryz.f211.name,by decide,Tryz.func211.trans (congrArg some (by kernel_rfl))⟩
  t0:=Tryz.underlying0
  a0:=Tryz.isAgg0
  z0:=Tryz.sizeOf0
  v0:=Tryz.zeroValue0
  t4:=Tryz.underlying4
  a4:=Tryz.isAgg4
  z4:=Tryz.sizeOf4
  v4:=Tryz.zeroValue4
  t23:=Tryz.underlying190
  a23:=Tryz.isAgg190
  z23:=Tryz.sizeOf190
  v23:=Tryz.zeroValue190
  t26:=Tryz.underlying9
  a26:=Tryz.isAgg9
  z26:=Tryz.sizeOf9
  v26:=Tryz.zeroValue9
  t27:=Tryz.underlying224
  a27:=Tryz.isAgg224
  z27:=Tryz.sizeOf224
  v27:=Tryz.zeroValue224
  t28:=Tryz.underlying225
  a28:=Tryz.isAgg225
  z28:=Tryz.sizeOf225
  v28:=Tryz.zeroValue225
  t33:=Tryz.underlying210
  a33:=Tryz.isAgg210
  z33:=Tryz.sizeOf210
  v33:=Tryz.zeroValue210}
def sortedL_ren:Go.Shelf.Ren:=⟨fun | 6=>138 | 8=>209 | 9=>210 | 11=>256 | 13=>258 | 12=>257 | 23=>291 | 24=>292 | 14=>282 | 15=>283 | 16=>284 | 17=>285 | 18=>286 | 19=>287 | 20=>288 | 21=>289 | 22=>290 | 25=>315 | 26=>316 | 27=>317 | 28=>318 | 29=>319 | 30=>320 | 31=>328 | n=>n,fun | 26=>9 | 28=>225 | 24=>55 | 0=>0 | 3=>3 | 37=>340 | 48=>314 | 50=>335 | 4=>4 | 40=>363 | 39=>362 | 45=>307 | 5=>5 | 9=>9 | 51=>385 | 55=>389 | 57=>395 | 58=>218 | 33=>210 | n=>n,fun | n=>n⟩
theorem sortedL:Go.Proofs.SlLaysZ.n6 Tryz.prog sortedL_ren:={
  mixed:=by kernel_rfl
  f6:=⟨Tryz.f138.name,by decide,Tryz.func138.trans (congrArg some (by kernel_rfl))⟩
  f8:=⟨Tryz.f209.name,by decide,Tryz.func209.trans (congrArg some (by kernel_rfl))⟩
  f11:=⟨Tryz.f256.name,by decide,Tryz.func256.trans (congrArg some (by kernel_rfl))⟩
  t0:=Tryz.underlying0
  a0:=Tryz.isAgg0
  z0:=Tryz.sizeOf0
  v0:=Tryz.zeroValue0
  t24:=Tryz.underlying55
  a24:=Tryz.isAgg55
  z24:=Tryz.sizeOf55
  v24:=Tryz.zeroValue55
  t26:=Tryz.underlying9
  a26:=Tryz.isAgg9
  z26:=Tryz.sizeOf9
  v26:=Tryz.zeroValue9
  t28:=Tryz.underlying225
  a28:=Tryz.isAgg225
  z28:=Tryz.sizeOf225
  v28:=Tryz.zeroValue225
  i26:=by kernel_rfl}
def sortL_ren:Go.Shelf.Ren:=⟨fun | 6=>210 | 8=>258 | 9=>257 | 19=>291 | 20=>292 | 21=>282 | 22=>283 | 23=>284 | 24=>285 | 25=>286 | 26=>287 | 27=>288 | 28=>289 | 29=>290 | 36=>315 | 31=>316 | 32=>317 | 37=>318 | 38=>319 | 39=>320 | 41=>328 | n=>n,fun | 27=>55 | 29=>9 | 3=>3 | 32=>340 | 26=>55 | 0=>0 | 44=>314 | 46=>335 | 4=>4 | 36=>363 | 35=>362 | 41=>307 | 5=>5 | 9=>9 | 53=>385 | 57=>389 | 63=>395 | 64=>218 | n=>n,fun | n=>n⟩
theorem sortL:Go.Proofs.SlLaysM.n6 Tryz.prog sortL_ren:={
  mixed:=by kernel_rfl
  f6:=⟨Tryz.f210.name,by decide,Tryz.func210.trans (congrArg some (by kernel_rfl))⟩
  f8:=Tryz.func258.trans (congrArg some (by kernel_rfl))
  f9:=⟨Tryz.f257.name,by decide,Tryz.func257.trans (congrArg some (by kernel_rfl))⟩
  f19:=Tryz.func291.trans (congrArg some (by kernel_rfl))
  f20:=Tryz.func292.trans (congrArg some (by kernel_rfl))
  f21:=⟨Tryz.f282.name,by decide,Tryz.func282.trans (congrArg some (by kernel_rfl))⟩
  f22:=⟨Tryz.f283.name,by decide,Tryz.func283.trans (congrArg some (by kernel_rfl))⟩
  f23:=⟨Tryz.f284.name,by decide,Tryz.func284.trans (congrArg some (by kernel_rfl))⟩
  f24:=⟨Tryz.f285.name,by decide,Tryz.func285.trans (congrArg some (by kernel_rfl))⟩
  f25:=⟨Tryz.f286.name,by decide,Tryz.func286.trans (congrArg some (by kernel_rfl))⟩
  f26:=⟨Tryz.f287.name,by decide,Tryz.func287.trans (congrArg some (by kernel_rfl))⟩
  f27:=⟨Tryz.f288.name,by decide,Tryz.func288.trans (congrArg some (by kernel_rfl))⟩
  f28:=⟨Tryz.f289.name,by decide,Tryz.func289.trans (congrArg some (by kernel_rfl))⟩
  f29:=⟨Tryz.f290.name,by decide,Tryz.func290.trans (congrArg some (by kernel_rfl))⟩
  f31:=Tryz.func316.trans (congrArg some (by kernel_rfl))
  f32:=Tryz.func317.trans (congrArg some (by kernel_rfl))
  f36:=⟨Tryz.f315.name,by decide,Tryz.func315.trans (congrArg some (by kernel_rfl))⟩
  f37:=⟨Tryz.f318.name,by decide,Tryz.func318.trans (congrArg some (by kernel_rfl))⟩
  f38:=⟨Tryz.f319.name,by decide,Tryz.func319.trans (congrArg some (by kernel_rfl))⟩
  f39:=⟨Tryz.f320.name,by decide,Tryz.func320.trans (congrArg some (by kernel_rfl))⟩
  f41:=⟨Tryz.f328.name,by decide,Tryz.func328.trans (congrArg some (by kernel_rfl))⟩
  t0:=Tryz.underlying0
  a0:=Tryz.isAgg0
  z0:=Tryz.sizeOf0
  v0:=Tryz.zeroValue0
  t3:=Tryz.underlying3
  a3:=Tryz.isAgg3
  z3:=Tryz.sizeOf3
  v3:=Tryz.zeroValue3
  t4:=Tryz.underlying4
  a4:=Tryz.isAgg4
  z4:=Tryz.sizeOf4
  v4:=Tryz.zeroValue4
  t5:=Tryz.underlying5
  a5:=Tryz.isAgg5
  z5:=Tryz.sizeOf5
  v5:=Tryz.zeroValue5
  t9:=Tryz.underlying9
  a9:=Tryz.isAgg9
  z9:=Tryz.sizeOf9
  v9:=Tryz.zeroValue9
  t26:=Tryz.underlying55
  a26:=Tryz.isAgg55
  z26:=Tryz.sizeOf55
  v26:=Tryz.zeroValue55
  t27:=Tryz.underlying55
  a27:=Tryz.isAgg55
  z27:=Tryz.sizeOf55
  v27:=Tryz.zeroValue55
  t29:=Tryz.underlying9
  a29:=Tryz.isAgg9
  z29:=Tryz.sizeOf9
  v29:=Tryz.zeroValue9
  t32:=Tryz.underlying340
  a32:=Tryz.isAgg340
  z32:=Tryz.sizeOf340
  v32:=Tryz.zeroValue340
  t35:=Tryz.underlying362
  a35:=Tryz.isAgg362
  z35:=Tryz.sizeOf362
  v35:=Tryz.zeroValue362
  t36:=Tryz.underlying363
  a36:=Tryz.isAgg363
  z36:=Tryz.sizeOf363
  v36:=Tryz.zeroValue363
  t41:=Tryz.underlying307
  a41:=Tryz.isAgg307
  z41:=Tryz.sizeOf307
  v41:=Tryz.zeroValue307
  t44:=Tryz.underlying314
  a44:=Tryz.isAgg314
  z44:=Tryz.sizeOf314
  v44:=Tryz.zeroValue314
  t46:=Tryz.underlying335
  a46:=Tryz.isAgg335
  z46:=Tryz.sizeOf335
  v46:=Tryz.zeroValue335
  t53:=Tryz.underlying385
  a53:=Tryz.isAgg385
  z53:=Tryz.sizeOf385
  v53:=Tryz.zeroValue385
  t57:=Tryz.underlying389
  a57:=Tryz.isAgg389
  z57:=Tryz.sizeOf389
  v57:=Tryz.zeroValue389
  t63:=Tryz.underlying395
  a63:=Tryz.isAgg395
  z63:=Tryz.sizeOf395
  v63:=Tryz.zeroValue395
  t64:=Tryz.underlying218
  a64:=Tryz.isAgg218
  z64:=Tryz.sizeOf218
  v64:=Tryz.zeroValue218}

end Go.Proofs.YtdjpigfibafokaaGreatDoor

namespace Go.Proofs.YtdjpigfibafokaaGreatDoor
variable {S fr:List Nat}
variable {T:Tre}
variable {b g gs h n room x:Nat}
variable {cs:Lz}
variable {w w' w0:World}
set_option maxRecDepth 20000
open Go.RowKit Go.Maps Go.Sort Go.Shelf

theorem sorts14 (m:Nat):AnyZ.SortsIn Tryz.prog sortedL_ren Fence.wide m:=
  ⟨fun blk off cap ss W hH hblk hsz=>callsIn_wide.2 (AnyM.slices_Sort_string sortL blk off cap ss W hH hblk hsz),
   fun p cap W=>callsIn_wide.2 (AnyM.slices_Sort_string_none sortL p cap W)⟩

theorem keys14_any (mb:Option Nat) (W:World):CallsIn Fence.wide 5 Tryz.prog 139 #[.map mb] W fun e w'=>e=.returned (.func (.func 211) #[] #[.pointer (some ⟨W.heap.size,0,none⟩)])∧w'=W.alloc (.cells #[.map mb] 190):=
  AnyZ.keys_in keysL Fence.wide 5 trivial rfl mb W

set_option maxHeartbeats 1000000 in
theorem sorted14_any {H:Type} (b nn:Nat) (D0:DataW H) (R:Value→Option (DataW H×List MemPlace)) (w:World) (hown:w.ownsMap Tryz.prog 9 R b nn D0) (hmax:Maps.size D0≤maxLen) (hbytes:Maps.size D0 * 16≤140737488355328):
    CallsIn Fence.wide 5 Tryz.prog 138 #[.func (.func 211) #[] #[.pointer (some ⟨w.heap.size,0,none⟩)]] (w.alloc (.cells #[.map (some b)] 190)) fun e w'=>∃(v:Value) (ss:List (List UInt8)),e=.returned v∧ss.Perm (strKeys D0)∧
      w'.ownsRow (w.alloc (.cells #[.map (some b)] 190)).heap.size 9 1 v ss.length ((ss.mergeSort (fun x y=>decide (x≤y))).map encStr)∧(v=.slice none 0 0↔ss=[])∧Below (w.alloc (.cells #[.map (some b)] 190)).heap.size (w.alloc (.cells #[.map (some b)] 190)) w':=by
  have hbl:=hown.lt;have hseq:SeqGives Fence.wide 2 Tryz.prog 211 #[.pointer (some ⟨w.heap.size,0,none⟩)] encStr (fun ss=>ss.Perm (strKeys D0)) (Maps.size D0) (w.alloc (.cells #[.map (some b)] 190)):=
    AnyZ.keys_gives (ρ:=keysL_ren) { keysL with} Fence.wide _ trivial rfl (by omega) w.heap.size b nn D0 _ (by simp) (by simp) (by
      obtain ⟨es,clock,hb,Ft,hs,hD⟩:=hown;exact ⟨es,clock,(Below.heap_alloc _ _ b hbl).trans hb,Ft,hs,hD⟩)
  exact AnyZ.sorted_in sortedL Fence.wide 5 trivial trivial trivial trivial rfl (by omega) (sorts14 _) (enters_of Tryz.func210 (by kernel_rfl) rfl) 211 #[.pointer (some ⟨w.heap.size,0,none⟩)] trivial (enters_of Tryz.func211 (by kernel_rfl) rfl) _ _ hmax hbytes _ hseq

end Go.Proofs.YtdjpigfibafokaaGreatDoor
