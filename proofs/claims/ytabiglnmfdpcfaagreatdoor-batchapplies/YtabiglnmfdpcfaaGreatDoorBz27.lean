/- plan.build: what is planned is made, node by node; as a contract. -/
import Derived.Test.YtabiglnmfdpcfaaGreatDoorBz01
import Derived.Test.YtabiglnmfdpcfaaGreatDoorBz25
import Derived.Test.YtabiglnmfdpcfaaGreatDoorBz26
import Derived.Test.YtabiglnmfdpcfaaGreatDoorBz23
import Derived.Test.YtabiglnmfdpcfaaGreatDoorBz15
import Derived.Test.YtabiglnmfdpcfaaGreatDoorBz18
import Derived.Test.YtabiglnmfdpcfaaGreatDoorBz24
namespace Go.Proofs.YtabiglnmfdpcfaaGreatDoor
variable {S fr:List Nat}
variable {b base bp g gs i j k m n room:Nat}
variable {cs cs1:Lz}
variable {lv v v':Value}
variable {w w0 w1 w4 wa wr:World}
variable {xs:List Value}
set_option maxHeartbeats 8000000
set_option maxRecDepth 20000
open Go.RowKit

theorem handle11_any {ms:List Nat} (h:IL m w b v ms) (p:Int) (hp: -p≤(ms.length:Int)) (h6:ms.length≤65536):Kc 94 #[.int .i64 p,.pointer (some ⟨b,0,none⟩)] w fun e w'=>e=.returned (.int .i64 (hdl ms p:Int))∧w'=w:=by
  have c0:=h.cell
  by_cases hn:p<0
  · obtain ⟨i,rfl⟩:∃i:Nat,p= -((i:Int)+1):=⟨(-p-1).toNat,by omega⟩
    have hi:i<ms.length:=by omega
    rw [hdl_neg];obtain ⟨gl,c,rfl,hcap⟩:=lst_pos (owR_lst h.lst) (by omega);have ck:w.cell? ⟨gl,i,none⟩=some (.int .i64 (ms.getD i 0:Int)):=by
      rw [lst_cell (owR_lst h.lst) i (by omega),nats,List.getElem?_map,List.getD_eq_getElem?_getD,List.getElem?_eq_getElem hi];rfl
    obtain ⟨nn,hnn⟩:∃q,q=ms.length:=⟨_,rfl⟩;rw [← hnn] at c0 hi h6;obtain ⟨z,hz⟩:∃z:Int,z= -((i:Int)+1):=⟨_,rfl⟩;obtain ⟨y,hy⟩:∃y:Int,y=(i:Int)+1:=⟨_,rfl⟩;have e1:wrap64 (-z)=y:=by rw [Go.IntWalk.wrap64_in _ (by omega)];omega
    have e2:wrap64 (y-1)=(i:Int):=by rw [Go.IntWalk.wrap64_in _ (by omega)];omega
    have i0:(0:Int)≤(i:Int):=by omega
    have i1:(i:Int)<(nn:Int):=by omega
    have z0:z<0:=by omega
    rw [← hz];generalize (ms.getD i 0:Int)=r at ck ⊢;clear h hp hn hnn hz hy h6 hcap;go_enter Tryz.func94,Tryz.ntmps94
    go_wp2_with fail
    go_ret;exact ⟨rfl,rfl⟩
  · have e:(hdl ms p:Int)=p:=by rw [hdl,if_neg hn];omega
    rw [e];clear h hp h6 e;go_enter Tryz.func94,Tryz.ntmps94
    go_wp2_with fail
    go_ret;exact ⟨rfl,rfl⟩

theorem Hs.apart (h:Hs w0 S w g gs room cs fr) (X:Nat→Prop) (hx:∀vp vf,Stm w g gs vp vf room cs fr→∀x,X x→x ∉ stB g gs vp vf cs) (hl:∀x,X x→x<w.heap.size):
    ∃S1,Hs w S1 w g gs room cs fr∧(∀x,X x→x ∉ S1)∧(∀P:World→Prop,Kq S w0 P→Kq S1 w P)∧∀w' cs' fr',Hs w S1 w' g gs room cs' fr'→Hs w0 S w' g gs room cs' fr'∧Mod S1 w w'∧∀vp vf,Stm w' g gs vp vf room cs' fr'→∀x,X x→x ∉ stB g gs vp vf cs':=by
  obtain ⟨⟨vp,vf,s,m,n⟩,W⟩:=h;refine ⟨stB g gs vp vf cs,Hs.here s W,hx vp vf s,fun P k=>k.turn m n,fun w' cs' fr' k=>?_⟩;obtain ⟨⟨vp',vf',s',m',n'⟩,W'⟩:=k;refine ⟨⟨⟨vp',vf',s',m.trans n m',n.trans m.size n'⟩,W'⟩,m',fun vp2 vf2 s2 x hX hq=>?_⟩;obtain rfl:vp2=vp':=Option.some.inj (s2.sl.c2.symm.trans s'.sl.c2);obtain rfl:vf2=vf':=Option.some.inj (s2.sl.c3.symm.trans s'.sl.c3);rcases n' x hq with e | e
  · exact hx vp vf s x hX e
  · have:=hl x hX
    omega

structure Mk5 (w wr:World) (S:List Nat) (g gs room:Nat) (cs:Lz) (fr:List Nat) (b5:Nat) (v:Value) (ms:List Nat) (bp:Nat) (lv:Value) (ps:List Pn):Prop where
  hs:Hs w S wr g gs room cs fr
  il:IL w.heap.size wr b5 v ms
  pr:PlR wr bp (.pointer (some ⟨g,0,none⟩)) ps lv
  ap:∀vp vf,Stm wr g gs vp vf room cs fr→∀x,(x=b5∨v.ownBlock=some x∨x=bp∨lv.ownBlock=some x)→x ∉ stB g gs vp vf cs

section
variable {w wr:World} {S:List Nat} {g gs room:Nat} {cs:Lz} {fr:List Nat} {b5:Nat} {v:Value} {ms:List Nat} {bp:Nat} {lv:Value} {ps:List Pn}
theorem Mk5.lt (h:Mk5 w wr S g gs room cs fr b5 v ms bp lv ps):∀x,(x=b5∨v.ownBlock=some x∨x=bp∨lv.ownBlock=some x)→x<wr.heap.size:=fun x hx=>by
  rcases hx with e | e | e | e
  · rw [e];exact h.il.blk.lt
  · exact (h.il.lst.lt x e).2
  · rw [e];exact h.pr.blk.lt
  · exact (h.pr.lst.lt x e).2
theorem Mk5.grow {w3:World} (h:Mk5 w wr S g gs room cs fr b5 v ms bp lv ps) (hb:Kb wr w3):Mk5 w w3 S g gs room cs fr b5 v ms bp lv ps:=by
  refine ⟨h.hs.grow hb,h.il.grow hb,h.pr.grow hb,fun vp vf s x hx hq=>?_⟩;obtain ⟨⟨vp',vf',s',_,_⟩,_⟩:=h.hs;have s2:=s'.grow hb;obtain rfl:vp=vp':=Option.some.inj (s.sl.c2.symm.trans s2.sl.c2);obtain rfl:vf=vf':=Option.some.inj (s.sl.c3.symm.trans s2.sl.c3);exact h.ap _ _ s' x hx hq
theorem Mk5.call {w3:World} (h:Mk5 w wr S g gs room cs fr b5 v ms bp lv ps) (hb:Kb wr w3) (b8:Nat) (h8:wr.heap.size≤b8) (l8:b8<w3.heap.size):
    ∃S1,Hs w3 S1 w3 g gs room cs fr∧(∀P:World→Prop,Kq S w P→Kq S1 w3 P)∧b8 ∉ S1∧∀w4 cs' fr',Hs w3 S1 w4 g gs room cs' fr'→Mk5 w w4 S g gs room cs' fr' b5 v ms bp lv ps∧Mod S1 w3 w4:=by
  have h3:=h.grow hb;obtain ⟨S1,k1,k2,k3,k4⟩:=h3.hs.apart (fun x=>(x=b5∨v.ownBlock=some x∨x=bp∨lv.ownBlock=some x)∨x=b8) (fun vp vf s x hx hq=>by
    rcases hx with hx | hx
    · exact h3.ap vp vf s x hx hq
    · subst hx
      obtain ⟨⟨vp',vf',s',_,_⟩,_⟩:=h.hs;have s2:=s'.grow hb;obtain rfl:vp=vp':=Option.some.inj (s.sl.c2.symm.trans s2.sl.c2);obtain rfl:vf=vf':=Option.some.inj (s.sl.c3.symm.trans s2.sl.c3);have:=s'.lts x hq;omega) (fun x hx=>by
    rcases hx with hx | hx
    · exact h3.lt x hx
    · rw [hx];exact l8)
  refine ⟨S1,k1,k3,k2 b8 (.inr rfl),fun w4 cs' fr' hh=>?_⟩;obtain ⟨q1,q2,q3⟩:=k4 w4 cs' fr' hh;exact ⟨⟨q1,h3.il.mod q2 (k2 _ (.inl (.inl rfl))) (fun x hx=>k2 x (.inl (.inr (.inl hx)))),h3.pr.mod q2 (k2 _ (.inl (.inr (.inr (.inl rfl))))) (fun x hx=>k2 x (.inl (.inr (.inr (.inr hx))))),fun vp vf s x hx=>q3 vp vf s x (.inl hx)⟩,q2⟩
theorem Mk5.push (h:Mk5 w wr S g gs room cs fr b5 v ms bp lv ps) (hne:bp≠b5) (hb:Kb wr w1) (hg:w1.grownBy w4 v.ownBlock) (x:Nat) (ho:w4.ownsRow w.heap.size 3 1 v' (ms.length+1) (nats ms++[Value.int .i64 (x:Int)])) (hw:WhereL w1 v v'):Mk5 w (w4.setCell ⟨b5,0,none⟩ v') S g gs room cs fr b5 v' (ms++[x]) bp lv ps∧w4.cell? ⟨b5,0,none⟩=some v∧w4.frozen? ⟨b5,0,none⟩=false:=by
  obtain ⟨q1,q2,q3,q4⟩:=h.il.snoc hb hg x ho;obtain ⟨⟨vp,vf,s,m,n⟩,W⟩:=h.hs;have hT:∀k∈b5::v.ownBlock.toList,k=b5∨v.ownBlock=some k:=fun k hk=>by
    rcases List.mem_cons.1 hk with e | e
    · exact .inl e
    · exact .inr (by simpa using e)
  have s6:Stm (w4.setCell ⟨b5,0,none⟩ v') g gs vp vf room cs fr:=s.mod q2 fun k hk hq=>h.ap vp vf s k ((hT k hq).elim .inl fun e=>.inr (.inl e)) hk
  have hnew:∀k∈b5::v.ownBlock.toList,w.heap.size≤k:=fun k hk=>by
    rcases hT k hk with e | e
    · rw [e];exact h.il.lb
    · exact (h.il.lst.lt k e).1
  refine ⟨⟨⟨⟨vp,vf,s6,m.trans (fun k hk=>.inr (hnew k hk)) q2,n⟩,W⟩,q1,h.pr.mod q2 (fun hq=>?_) (fun y hy hq=>?_),fun vp2 vf2 s2 y hy hq=>?_⟩,q3,q4⟩
  · rcases hT bp hq with e | e
    · exact hne e
    · exact lst_blk_ne (owR_lst h.il.lst) h.pr.blk (by decide) e
  · rcases hT y hq with e | e
    · subst e
      exact lst_blk_ne h.pr.lst h.il.blk (by decide) hy
    · exact lst_ne h.pr.lst (owR_lst h.il.lst) (by decide) y hy e
  · obtain rfl:vp2=vp:=Option.some.inj (s2.sl.c2.symm.trans s6.sl.c2)
    obtain rfl:vf2=vf:=Option.some.inj (s2.sl.c3.symm.trans s6.sl.c3);rcases hy with e | e | e | e
    · exact h.ap _ _ s y (.inl e) hq
    · rcases hw with e2 | ⟨k,e2,hk⟩
      · rw [e2] at e
        exact h.ap _ _ s y (.inr (.inl e)) hq
      · rw [e2] at e
        injection e with e;subst e;have h1:=s.lts k hq;have h2:=hb.size;omega
    · exact h.ap _ _ s y (.inr (.inr (.inl e))) hq
    · exact h.ap _ _ s y (.inr (.inr (.inr e))) hq
end

end Go.Proofs.YtabiglnmfdpcfaaGreatDoor

namespace Go.Proofs.YtabiglnmfdpcfaaGreatDoor
variable {S fr:List Nat}
variable {b base bp g gs i j k m n room:Nat}
variable {cs cs1:Lz}
variable {lv v v':Value}
variable {w w0 w1 w4 wa wr:World}
variable {xs:List Value}
set_option maxHeartbeats 8000000
set_option maxRecDepth 20000
open Go.RowKit

theorem owR_of {e:TypeId} (h:Lst w e k v n xs) (hb:∀g,v.ownBlock=some g→base≤g):w.ownsRow base e k v n xs:=⟨h.1,h.2.imp id fun ⟨g,cap,cur,a1,_,a3⟩=>⟨g,cap,cur,a1,hb g (by rw [a1];rfl),a3⟩⟩

def LfS (bp g b8:Nat) (K:Lq) (va:Option Addr) (vn vc:Nat) (w:World):Prop:=w.cell? ⟨bp,0,none⟩=some (.pointer (some ⟨g,0,none⟩))∧w.rangeAt b8 1 (B K).toList∧w.cell? ⟨b8,34,none⟩=some (.slice va vn vc)
def InS (bp g b8:Nat) (dd pl pr:Int) (w:World):Prop:=w.cell? ⟨bp,0,none⟩=some (.pointer (some ⟨g,0,none⟩))∧w.cell? ⟨b8,35,none⟩=some (.int .i64 dd)∧w.cell? ⟨b8,36,none⟩=some (.int .i64 pl)∧w.cell? ⟨b8,37,none⟩=some (.int .i64 pr)

theorem lfS_of {b8:Nat} {n:Pn} {va:Option Addr} {vc:Nat} (hc:w.cell? ⟨bp,0,none⟩=some (.pointer (some ⟨g,0,none⟩))) (ok:WtOk n.w) (hv:n.w.v=.slice va n.w.b.length vc) (B8:Blk w b8 139 (encPl n).toArray):LfS bp g b8 n.w.k va n.w.b.length vc w:=by
  obtain ⟨_,q1,_⟩:=encPl_at (g:=b8) (o:=0) ok (by have:=B8.range;simpa using this);refine ⟨hc,encW_key q1,?_⟩;have:=encW_val q1 ok.hk.1;rw [hv] at this;simpa using this
theorem inS_of {b8:Nat} {n:Pn} (hc:w.cell? ⟨bp,0,none⟩=some (.pointer (some ⟨g,0,none⟩))) (ok:WtOk n.w) (B8:Blk w b8 139 (encPl n).toArray):InS bp g b8 (n.dp:Int) n.l n.r w:=by
  obtain ⟨_,_,q1,q2,q3⟩:=encPl_at (g:=b8) (o:=0) ok (by have:=B8.range;simpa using this);exact ⟨hc,by simpa using q1,by simpa using q2,by simpa using q3⟩

def MkN (w:World) (S:List Nat) (g gs room b5:Nat) (v:Value) (bp:Nat) (lv:Value) (ps:List Pn) (s0:Bst) (k:Nat) (ms:List Nat) (hh:Nat) (w4:World):Prop:=∃s2,Bz ps 0 s0 (k+1) s2∧s2.ms=ms++[hh]∧Mk5 w w4 S g gs room s2.cs s2.fr b5 v ms bp lv ps

theorem mk_leaf {b5:Nat} {ps:List Pn} {s0 s:Bst} (h:Mk5 w wr S g gs room s.cs s.fr b5 v s.ms bp lv ps) {w3:World} (hb:Kb wr w3) {b8:Nat} (h8:wr.heap.size≤b8) (l8:b8<w3.heap.size) {n:Pn} (B8:Blk w3 b8 139 (encPl n).toArray) (ok:WtOk n.w) {va:Option Addr} {vc:Nat} (hvv:n.w.v=.slice va n.w.b.length vc) (hin:n.inn=false) (hz:Bz ps 0 s0 k s) (hn:ps[k]?=some n) (hc:WtOk0 n.w∧n.w.g=false) (hr:noc s.cs<room) (hL:Kq S w Laid) (hv:Kq S w fun x=>Reads x n.w.v n.w.b):
    LfS bp g b8 n.w.k va n.w.b.length vc w3∧Kc 30 #[.pointer (some ⟨g,0,none⟩),.agg (B n.w.k),.slice va n.w.b.length vc] w3 fun e w4=>e=.returned (.tuple #[.int .i64 (tkH s.cs s.fr:Int),.int .i64 0])∧LfS bp g b8 n.w.k va n.w.b.length vc w4∧MkN w S g gs room b5 v bp lv ps s0 k s.ms (tkH s.cs s.fr) w4:=by
  obtain ⟨S1,k1,k2,k3,k4⟩:=h.call hb b8 h8 l8;refine ⟨lfS_of (h.pr.grow hb).cells.1 ok hvv B8,?_⟩;have c:=hs_leaf k1 n.w.k n.w.v n.w.b (k2 _ hv).now hc.1.1 (k2 _ hL).now (hc.1.2.2 hc.2) (k1.free hr);rw [hvv] at c;refine c.mono ?_;rintro e w4 ⟨v',rfl,okc,hs4⟩;obtain ⟨q1,q2⟩:=k4 _ _ _ hs4;exact ⟨rfl,lfS_of q1.pr.cells.1 ok hvv (B8.mod q2 k3),⟨_,s.fr.dropLast,_⟩,hz.step hn k1.frok hs4.2 ⟨rfl,rfl,.inl ⟨hin,v',okc,rfl⟩⟩,rfl,q1⟩

theorem mk_inner {b5:Nat} {ps:List Pn} {s0 s:Bst} (h:Mk5 w wr S g gs room s.cs s.fr b5 v s.ms bp lv ps) {w3:World} (hb:Kb wr w3) {b8:Nat} (h8:wr.heap.size≤b8) (l8:b8<w3.heap.size) {n:Pn} (B8:Blk w3 b8 139 (encPl n).toArray) (ok:WtOk n.w) (hin:n.inn=true) (hz:Bz ps 0 s0 k s) (hn:ps[k]?=some n) (hc:n.dp<256∧mayP s.cs (hdl s.ms n.l:Int)∧mayP s.cs (hdl s.ms n.r:Int)∧∃u,(u=true↔Und (sdC s.cs (hdl s.ms n.l)).key (sdC s.cs (hdl s.ms n.r)).key (n.dp:Int))∧fitP n.dp (sdC s.cs (hdl s.ms n.l)) (sdC s.cs (hdl s.ms n.r)) u=true) (hr:noc s.cs<room) (hL:Kq S w Laid):
    InS bp g b8 (n.dp:Int) n.l n.r w3∧Kc 32 #[.pointer (some ⟨g,0,none⟩),.int .i64 (n.dp:Int),.int .i64 (hdl s.ms n.l:Int),.int .i64 (hdl s.ms n.r:Int)] w3 fun e w4=>e=.returned (.tuple #[.int .i64 (tkH s.cs s.fr:Int),.int .i64 0])∧InS bp g b8 (n.dp:Int) n.l n.r w4∧MkN w S g gs room b5 v bp lv ps s0 k s.ms (tkH s.cs s.fr) w4:=by
  obtain ⟨S1,k1,k2,k3,k4⟩:=h.call hb b8 h8 l8;refine ⟨inS_of (h.pr.grow hb).cells.1 ok B8,?_⟩;obtain ⟨hd,m1,m2,u,hu,hf⟩:=hc;refine (hs_inner k1 n.dp (hdl s.ms n.l) (hdl s.ms n.r) hd m1 m2 u hu hf (k2 _ hL).now (k1.free hr)).mono ?_;rintro e w4 ⟨cs',hi,rfl,hs4⟩;obtain ⟨q1,q2⟩:=k4 _ _ _ hs4;exact ⟨rfl,inS_of q1.pr.cells.1 ok (B8.mod q2 k3),⟨cs',s.fr.dropLast,_⟩,hz.step hn k1.frok hs4.2 ⟨rfl,rfl,.inr ⟨hin,hi⟩⟩,rfl,q1⟩

theorem isG_parts {cs:Lz} {ps:List Pn}:∀ {G:Gt} {lo hi:Nat} {q:Int},IsG cs ps lo hi q G→ -q≤(hi:Int)∧∀j n,lo≤j→j<hi→ps[j]?=some n→n.inn=true→ -n.l≤(j:Int)∧ -n.r≤(j:Int)
  | .old h T,lo,hi,q,g=>by
    obtain ⟨rfl,rfl,_⟩:=g;exact ⟨by omega,fun j n h1 h2=>by omega⟩
  | .lf x,lo,hi,q,g=>by
    obtain ⟨rfl,rfl,hp⟩:=g;refine ⟨by omega,fun j n h1 h2 h3 h4=>?_⟩;obtain rfl:j=lo:=by omega
    rw [hp] at h3;injection h3 with h3;subst h3;cases h4
  | .nd d L R,lo,hi,q,g=>by
    obtain ⟨m,n,a,b,rfl,rfl,hp,gL,gR⟩:=g;have l1:=gL.le;have l2:=gR.le;obtain ⟨a1,a2⟩:=isG_parts gL;obtain ⟨b1,b2⟩:=isG_parts gR;refine ⟨by omega,fun j x h1 h2 h3 h4=>?_⟩
    by_cases j1:j<m
    · exact a2 j x h1 j1 h3 h4
    · by_cases j2:j<n
      · exact b2 j x (by omega) j2 h3 h4
      · obtain rfl:j=n:=by omega
        rw [hp] at h3;injection h3 with h3;subst h3;exact ⟨by show -a≤_;omega,by show -b≤_;omega⟩

theorem bz_mlen {ps:List Pn} {s0:Bst} {s1:Bst} (h:Bz ps i s0 j s1) (e:s0.ms.length=i):s1.ms.length=j:=by
  induction h with
  | refl=>exact e
  | step _ _ _ _ hb ih=>
    rw [hb.2.1,List.length_append,ih e];rfl

def BlPost (w:World) (S:List Nat) (g gs room:Nat) (ps:List Pn) (s0:Bst) (top:Int) (e:Ending) (w':World):Prop:=∃s,Bz ps 0 s0 ps.length s∧e=.returned (.int .i64 (hdl s.ms top:Int))∧Hs w S w' g gs room s.cs s.fr

theorem build_any {fr1:List Nat} (H:Hs w S w g gs room cs1 fr1) {bp:Nat} {lv:Value} {ps:List Pn} (P:PlR w bp (.pointer (some ⟨g,0,none⟩)) ps lv) (hap:∀vp vf,Stm w g gs vp vf room cs1 fr1→∀x,(x=bp∨lv.ownBlock=some x)→x ∉ stB g gs vp vf cs1) (hL:Kq S w Laid) (hv:∀n∈ps,n.inn=false→Kq S w fun x=>Reads x n.w.v n.w.b)
    (hC:∀j s1,j<ps.length→Bz ps 0 ⟨cs1,fr1,[]⟩ j s1→∃n,ps[j]?=some n∧Can s1 n∧noc s1.cs+0=noc cs1+j∧s1.ms.length=j) (hP:∀(j:Nat) n,j<ps.length→ps[j]?=some n→n.inn=true→ -n.l≤(j:Int)∧ -n.r≤(j:Int)) (hroom:noc cs1+ps.length≤room) (h6:ps.length≤65536) (top:Int) (ht: -top≤(ps.length:Int)):
    Kc 45 #[.pointer (some ⟨bp,0,none⟩),.int .i64 top] w (BlPost w S g gs room ps ⟨cs1,fr1,[]⟩ top):=by
  obtain ⟨la,lc,hlv⟩:=lst_slice P.lst;obtain ⟨nn,hnn⟩:∃q,q=ps.length:=⟨_,rfl⟩;have c1:=P.cells.2;rw [hlv] at c1;obtain ⟨s0,hs0⟩:∃s0,s0=Bst.mk cs1 fr1 []:=⟨_,rfl⟩;rw [← hs0] at hC ⊢;rw [← hnn] at c1 hC hP hroom h6 ht hlv;have HMK0:Hid (Mk5 w (w.alloc (.cells #[.slice none 0 0] 53)) S g gs room s0.cs s0.fr w.heap.size (.slice none 0 0) s0.ms bp lv ps):=by
    have hb:=grow_alloc w (.cells #[.slice none 0 0] 53);rw [hs0];refine ⟨H.grow hb,⟨Blk.new w _ _,World.ownsRow_nil _ _ _ _,Nat.le_refl _⟩,P.grow hb,fun vp vf s x hx hq=>?_⟩;obtain ⟨⟨vp',vf',s',_,_⟩,_⟩:=H;have s2:=s'.grow hb;obtain rfl:vp=vp':=Option.some.inj (s.sl.c2.symm.trans s2.sl.c2);obtain rfl:vf=vf':=Option.some.inj (s.sl.c3.symm.trans s2.sl.c3);rcases hx with hx | hx | hx
    · have:=s'.lts x hq
      omega
    · cases hx
    · exact hap _ _ s' x hx hq
  have HPost:Hid (∀s w',Bz ps 0 s0 nn s→Hs w S w' g gs room s.cs s.fr→BlPost w S g gs room ps s0 top (.returned (.int .i64 (hdl s.ms top:Int))) w'):=fun s w' h1 h2=>⟨s,by rw [← hnn];exact h1,rfl,h2⟩
  generalize BlPost w S g gs room ps s0 top=PP at HPost ⊢;have c1a:=below_cell (grow_alloc w (.cells #[.slice none 0 0] 53)) c1;have HP:=hidden P;have HV:=hidden hv;have HC:=hidden hC;have HPP:=hidden hP;have HL:=hidden hL;have HR:=hidden hroom;have HN:=hidden h6;have HT:=hidden ht;have HNN:=hidden hnn;have HS0:=hidden (show noc s0.cs=noc cs1 by rw [hs0]);have HZL:Hid (∀j s1,j≤nn→Bz ps 0 s0 j s1→s1.ms.length=j):=fun j s1 hj hz=>bz_mlen hz (by rw [hs0];rfl)
  clear H P hap hL hv hC hP hroom h6 ht hs0 c1;go_enter Tryz.func45,Tryz.ntmps45
  go_wp2_with fail
  have HI0:Hid (∃(s:Bst) (v5:Value),Bz ps 0 s0 0 s∧Mk5 w (w.alloc (.cells #[.slice none 0 0] 53)) S g gs room s.cs s.fr w.heap.size v5 s.ms bp lv ps):=⟨s0,_,.refl _ _,HMK0.out⟩;generalize hw1:w.alloc (.cells #[.slice none 0 0] 53)=w1 at *;clear hw1 HMK0
  go_loopw [16] (fun iv wr=>∃(k:Nat),k≤nn∧iv=.int .i64 (k:Int)∧Hid (∃(s:Bst) (v5:Value),Bz ps 0 s0 k s∧Mk5 w wr S g gs room s.cs s.fr w.heap.size v5 s.ms bp lv ps)) (fun iv _=>nn-(intOf iv).toNat)
  case atStart=>exact ⟨0,by omega,rfl,HI0.out⟩
  case round=>
    clear HI0;obtain ⟨k,hk,rfl,HI⟩:=hrel
    by_cases hlt:k<nn
    · obtain ⟨s,v5,hz,hm⟩:=HI.out
      obtain ⟨n,hn,hcan,hnoc,hml⟩:=HC.out k s hlt hz;have hmem:n∈ps:=List.mem_of_getElem? hn;obtain ⟨gl,lc',e1,hr⟩:=hm.pr.at (i:=k) (by rw [← hnn];exact hlt);rw [show ps[k]=n from (List.getElem?_eq_some_iff.1 hn).2] at hr;have e2:la=some ⟨gl,0,none⟩:=by
        have:=hlv.symm.trans e1;injection this
      subst e2;clear e1;have ok:WtOk n.w:=hm.pr.ok n hmem;have hroom:noc s.cs<room:=by
        have h1:=HR.out;have h2:=HS0.out;omega
      have HRG:=hidden hr;have k0:(0:Int)≤(k:Int):=by omega
      have k1:(k:Int)<(nn:Int):=by omega
      have hk6:k<65536:=by have:=HN.out;omega
      have hwk:wrap64 ((k:Int)+1)=((k+1:Nat):Int):=by rw [Go.IntWalk.wrap64_in _ (by omega)];rfl
      have H1C:Hid ((encPl n).toArray.all (·.oneCell')=true):=all_oneCell_toArray (encPl_one ok);have HSZn:Hid ((Tryz.prog.info? 139).map (·.size)=some (encPl n).length):=by show _=_;rw [encPl_len ok];exact size_pl
      have HSA:Hid ((Tryz.prog.info? 139).map (·.size)=some (encPl n).toArray.size):=by show _=_;rw [List.size_toArray];exact HSZn.out
      have HZn:Hid ((zPl 0 (encW wtZ) 0 0 0).toArray.size=(encPl n).toArray.size):=by show _=_;rw [List.size_toArray,List.size_toArray,zPl_len _ _ _ _ _ wtZ_ok.len,encPl_len ok]
      have HK0:Hid (∀(w':World) (b:Nat),Blk w' b 139 (encPl n).toArray→w'.cell? ⟨b,0,none⟩=some (.int .u8 (if n.inn then 2 else 1))):=fun w' b hb=>by
        have:=(encPl_at (g:=b) (o:=0) ok (by have:=hb.range;simpa using this)).1;simpa using this
      obtain ⟨hh,hhh⟩:∃x:Int,x=(tkH s.cs s.fr:Int):=⟨_,rfl⟩;obtain ⟨NX,hNX⟩:∃NX,NX=MkN w S g gs room w.heap.size v5 bp lv ps s0 k s.ms (tkH s.cs s.fr):=⟨_,rfl⟩;have HIL:Hid (∀w4,NX w4→IL w.heap.size w4 w.heap.size v5 s.ms):=fun w4 h4=>by
        rw [hNX] at h4;obtain ⟨_,_,_,q⟩:=h4;exact q.il
      have HFIN:Hid (∀w4 w5 v6,NX w4→Lst w5 3 1 v6 (s.ms.length+1) (nats s.ms++[Value.int .i64 hh])→(w4.alloc (.cells #[.int .i64 hh] 3)).grownBy w5 v5.ownBlock→WhereL (w4.alloc (.cells #[.int .i64 hh] 3)) v5 v6→w5.cell? ⟨w.heap.size,0,none⟩=some v5∧w5.frozen? ⟨w.heap.size,0,none⟩=false∧∃(s:Bst) (v5:Value),Bz ps 0 s0 (k+1) s∧Mk5 w (w5.setCell ⟨w.heap.size,0,none⟩ v6) S g gs room s.cs s.fr w.heap.size v5 s.ms bp lv ps):=fun w4 w5 v6 h4 hl hg hw=>by
        rw [hNX] at h4;obtain ⟨s2,z2,e2,m2⟩:=h4;have hb4:=grow_alloc w4 (.cells #[.int .i64 hh] 3);have hbase:∀x,v6.ownBlock=some x→w.heap.size≤x:=fun x hx=>by
          rcases hw with e | ⟨y,e,hy⟩
          · rw [e] at hx
            exact (m2.il.lst.lt x hx).1
          · rw [e] at hx
            injection hx with hx;have h1:=hb4.size;have h2:=m2.il.blk.lt;omega
        rw [hhh] at hl;obtain ⟨p1,p2,p3⟩:=m2.push (m2.pr.blk.ne m2.il.blk (by decide)) hb4 hg (tkH s.cs s.fr) (owR_of hl hbase) hw;exact ⟨p2,p3,s2,v6,z2,by rw [e2];exact p1⟩
      have HMS:Hid (s.ms.length=k):=hml;cases hin:n.inn with
      | false=>
        obtain ⟨va,vc,hvv⟩:=ok.hv;have HST:Hid (∀w3 b8,Kb wr w3→wr.heap.size≤b8→b8<w3.heap.size→Blk w3 b8 139 (encPl n).toArray→LfS bp g b8 n.w.k va n.w.b.length vc w3∧Kc 30 #[.pointer (some ⟨g,0,none⟩),.agg (B n.w.k),.slice va n.w.b.length vc] w3 fun e w4=>e=.returned (.tuple #[.int .i64 hh,.int .i64 0])∧LfS bp g b8 n.w.k va n.w.b.length vc w4∧NX w4):=fun w3 b8 q1 q2 q3 q4=>by
          rw [hNX,hhh];exact mk_leaf hm q1 q2 q3 q4 ok hvv hin hz hn (hcan.1 hin) hroom HL.out (HV.out n hmem hin)
        have HPL:Hid ((Tryz.prog.info? 34).map (·.size)=some (B n.w.k).toList.length):=by show _=_;rw [B_toList,List.length_map,ok.hk.1];exact size_path
        rw [hin] at HK0;generalize encPl n=X at HRG HSZn HZn H1C HSA HK0 HST;generalize n.w.k=K at HST HPL;generalize n.w.b.length=vn at HST;generalize s.ms=ms at HIL HFIN HMS;clear hz hm hn hcan hnoc hml hmem hr ok hroom hhh hNX HV HC HPP HL HR HS0 HI hk hvv hin
        go_wp2_with (first
          |((with_reducible refine at_ldd 19 18 ?_);refine wpList_ldw _ rfl _ _ rfl gl (k * 38) rfl X _ HRG.out Tryz.underlying139 rfl HSZn.out ?_)
          |((with_reducible refine at_ald 8 ?_);refine wpList_al _ rfl _ rfl _ zero_pl ?_;intro w2 b8 hg8 hl8 B8 q8;have HG8:=hidden hg8;have HL8:=hidden hl8;have HQ8:=hidden q8;clear hg8 hl8)
          |((with_reducible refine at_st 8 ?_);refine wpList_sto _ rfl _ _ _ rfl b8 _ X.toArray rfl rfl B8 HSA.out HZn.out H1C.out ?_;intro w3 B83 r3;have HB83:=hidden B83;have HQ3:=hidden (below_row HQ8.out r3 HG8.out);have c80:=HK0.out _ _ B83;clear B8 q8 B83 r3 HRG))
        have hb0:Kb w3 w3.drew:=below_drewN (Below.refl _ _) 1;have hst:=HST.out w3.drew b8 (grow_trans HQ3.out hb0) HG8.out (Nat.lt_of_lt_of_le HB83.out.lt hb0.size) (HB83.out.grow hb0);have HS:=hidden hst.1;have HLF:=hidden hst.2;clear hst HST c80;refine wp_region_held_drew (S:=LfS bp g b8 K va vn vc) (by kernel_rfl) (HS.out) (fun hHeld=>?_);refine tkp 0 (.pointer (some ⟨bp,0,none⟩)) hHeld ?_;simp only [Act.put,zq1,zq2,zq4,zq5,zq6];refine tkp 1 (.pointer (some ⟨bp,0,none⟩)) hHeld ?_;simp only [Act.put,zq1,zq2,zq3,zq4,zq5,zq6];refine tkp 2 (.pointer (some ⟨bp,0,none⟩)) hHeld ?_;simp only [Act.put,zq1,zq2,zq3,zq4,zq5,zq6];refine tkg 3 (.pointer (some ⟨g,0,none⟩)) rfl (Or.inl ⟨by rfl,fun w hS=>by (have q1:=hS.1;go_simp)⟩) hHeld ?_;simp only [Act.put,zq1,zq2,zq3,zq4,zq5,zq6];refine tkp 4 (.pointer (some ⟨b8,1,none⟩)) hHeld ?_;simp only [Act.put,zq1,zq2,zq3,zq4,zq5,zq6];refine tkp 5 (.pointer (some ⟨b8,1,none⟩)) hHeld ?_;simp only [Act.put,zq1,zq2,zq3,zq4,zq5,zq6];refine tkg 6 (.agg (B K)) rfl (yieldsIf_load_mid rfl 34 (.tmp 30) rfl b8 1 rfl (B K).toList _ (fun w hS=>hS.2.1) Tryz.underlying34 rfl HPL.out) hHeld ?_;simp only [Act.put,zq1,zq2,zq3,zq4,zq5,zq6];refine tkp 7 (.pointer (some ⟨b8,1,none⟩)) hHeld ?_;simp only [Act.put,zq1,zq2,zq3,zq4,zq5,zq6];refine tkp 8 (.pointer (some ⟨b8,34,none⟩)) hHeld ?_;simp only [Act.put,zq1,zq2,zq3,zq4,zq5,zq6];refine tkg 9 (.slice va vn vc) rfl (Or.inl ⟨by rfl,fun w hS=>by (have q1:=hS.2.2;go_simp)⟩) hHeld ?_;simp only [Act.put,zq1,zq2,zq3,zq4,zq5,zq6];refine wpAnyH_ready (rs:=[10]) (by kernel_rfl) (by simp) ?_;refine AllReadyH.cons rfl (fun KQ hK=>?_) AllReadyH.nil;go_simp;refine HLF.out.mono ?_;rintro e w4 ⟨rfl,hs4,nx4⟩;have HNX:=hidden nx4;clear nx4;refine hK.out _ _ (hs4) (fun hHeld=>?_);clear hK KQ;refine tkp 11 (.tuple #[.int .i64 hh,.int .i64 0]) hHeld ?_;simp only [Act.put,zq1,zq2,zq3,zq4,zq5,zq6];refine tkp 12 (.int .i64 hh) hHeld ?_;simp only [Act.put,zq1,zq2,zq3,zq4,zq5,zq6];refine tkp 13 (.int .i64 0) hHeld ?_;simp only [Act.put,zq1,zq2,zq3,zq4,zq5,zq6];refine tkp 14 (.int .i64 hh) hHeld ?_;simp only [Act.put,zq1,zq2,zq3,zq4,zq5,zq6];refine wpAnyH_done (by kernel_rfl) ?_ _;have c5:=(HIL.out _ HNX.out).cell;have HO:=hidden (owR_lst (owR_grow (HIL.out _ HNX.out).lst (grow_alloc w4 (.cells #[.int .i64 hh] 3))));have HF:=hidden (fun w5 v6=>HFIN.out w4 w5 v6 HNX.out);clear HFIN HIL HNX hHeld
        go_wp2_with (first
          |(at_builtin;refine wpList_appL _ rfl _ _ _ rfl 3 1 8 Tryz.underlying53 info_nat (by omega) _ ms.length (nats ms) rfl HO.out w4.heap.size [Value.int .i64 hh] rfl (Blk.new _ _ _) rfl (by intro u hu;simp at hu;subst hu;rfl) (by have:=HMS.out;simp only [maxLen];omega) (by have:=HMS.out;omega) ?_;intro v6 w5 l6 g6 h6;obtain ⟨f1,f2,f3⟩:=HF.out _ _ l6 g6 h6;have HF3:=hidden f3;obtain ⟨va6,vc6,rfl⟩:=lst_slice l6;clear l6 g6 h6 f3))
        exact ⟨⟨k+1,by omega,by go_num,HF3.out⟩,by simp [intOf];exact mea_step k1⟩
      | true=>
        have HST:Hid (∀w3 b8,Kb wr w3→wr.heap.size≤b8→b8<w3.heap.size→Blk w3 b8 139 (encPl n).toArray→(InS bp g b8 (n.dp:Int) n.l n.r w3∧Kc 32 #[.pointer (some ⟨g,0,none⟩),.int .i64 (n.dp:Int),.int .i64 (hdl s.ms n.l:Int),.int .i64 (hdl s.ms n.r:Int)] w3 fun e w4=>e=.returned (.tuple #[.int .i64 hh,.int .i64 0])∧InS bp g b8 (n.dp:Int) n.l n.r w4∧NX w4)∧(Kc 94 #[.int .i64 n.l,.pointer (some ⟨w.heap.size,0,none⟩)] w3 fun e w'=>e=.returned (.int .i64 (hdl s.ms n.l:Int))∧w'=w3)∧Kc 94 #[.int .i64 n.r,.pointer (some ⟨w.heap.size,0,none⟩)] w3 fun e w'=>e=.returned (.int .i64 (hdl s.ms n.r:Int))∧w'=w3):=fun w3 b8 q1 q2 q3 q4=>by
          obtain ⟨p1,p2⟩:=HPP.out k n hlt hn hin;rw [hNX,hhh];exact ⟨mk_inner hm q1 q2 q3 q4 ok hin hz hn (hcan.2 hin) hroom HL.out,handle11_any (hm.il.grow q1) n.l (by rw [hml];exact p1) (by omega),handle11_any (hm.il.grow q1) n.r (by rw [hml];exact p2) (by omega)⟩
        rw [hin] at HK0;generalize encPl n=X at HRG HSZn HZn H1C HSA HK0 HST;generalize (hdl s.ms n.l:Int)=hl at HST;generalize (hdl s.ms n.r:Int)=hr2 at HST;generalize (n.dp:Int)=dd at HST;generalize n.l=pl at HST;generalize n.r=pr at HST;generalize s.ms=ms at HIL HFIN HMS;clear hz hm hn hcan hnoc hml hmem hr ok hroom hhh hNX HV HC HPP HL HR HS0 HI hk hin
        go_wp2_with (first
          |((with_reducible refine at_ldd 19 18 ?_);refine wpList_ldw _ rfl _ _ rfl gl (k * 38) rfl X _ HRG.out Tryz.underlying139 rfl HSZn.out ?_)
          |((with_reducible refine at_ald 8 ?_);refine wpList_al _ rfl _ rfl _ zero_pl ?_;intro w2 b8 hg8 hl8 B8 q8;have HG8:=hidden hg8;have HL8:=hidden hl8;have HQ8:=hidden q8;clear hg8 hl8)
          |((with_reducible refine at_st 8 ?_);refine wpList_sto _ rfl _ _ _ rfl b8 _ X.toArray rfl rfl B8 HSA.out HZn.out H1C.out ?_;intro w3 B83 r3;have HB83:=hidden B83;have HQ3:=hidden (below_row HQ8.out r3 HG8.out);have c80:=HK0.out _ _ B83;clear B8 q8 B83 r3 HRG))
        have hb0:Kb w3 w3.drew:=below_drewN (Below.refl _ _) 1;have hst:=HST.out w3.drew b8 (grow_trans HQ3.out hb0) HG8.out (Nat.lt_of_lt_of_le HB83.out.lt hb0.size) (HB83.out.grow hb0);have HS:=hidden hst.1.1;have HIN:=hidden hst.1.2;have HHL:=hidden hst.2.1;have HHR:=hidden hst.2.2;clear hst HST c80;refine wp_region_held_drew (S:=InS bp g b8 dd pl pr) (by kernel_rfl) (HS.out) (fun hHeld=>?_);refine tkp 0 (.pointer (some ⟨bp,0,none⟩)) hHeld ?_;simp only [Act.put,zq1,zq2,zq4,zq5,zq6];refine tkp 1 (.pointer (some ⟨bp,0,none⟩)) hHeld ?_;simp only [Act.put,zq1,zq2,zq3,zq4,zq5,zq6];refine tkp 2 (.pointer (some ⟨bp,0,none⟩)) hHeld ?_;simp only [Act.put,zq1,zq2,zq3,zq4,zq5,zq6];refine tkg 3 (.pointer (some ⟨g,0,none⟩)) rfl (Or.inl ⟨by rfl,fun w hS=>by (have q1:=hS.1;go_simp)⟩) hHeld ?_;simp only [Act.put,zq1,zq2,zq3,zq4,zq5,zq6];refine tkp 4 (.pointer (some ⟨b8,35,none⟩)) hHeld ?_;simp only [Act.put,zq1,zq2,zq3,zq4,zq5,zq6];refine tkg 5 (.int .i64 dd) rfl (Or.inl ⟨by rfl,fun w hS=>by (have q1:=hS.2.1;go_simp)⟩) hHeld ?_;simp only [Act.put,zq1,zq2,zq3,zq4,zq5,zq6];refine tkp 6 (.func (.func 94) #[] #[.pointer (some ⟨w.heap.size,0,none⟩)]) hHeld ?_;simp only [Act.put,zq1,zq2,zq3,zq4,zq5,zq6];refine tkp 7 (.pointer (some ⟨b8,36,none⟩)) hHeld ?_;simp only [Act.put,zq1,zq2,zq3,zq4,zq5,zq6];refine tkg 8 (.int .i64 pl) rfl (Or.inl ⟨by rfl,fun w hS=>by (have q1:=hS.2.2.1;go_simp)⟩) hHeld ?_;simp only [Act.put,zq1,zq2,zq3,zq4,zq5,zq6];refine tkp 10 (.func (.func 94) #[] #[.pointer (some ⟨w.heap.size,0,none⟩)]) hHeld ?_;simp only [Act.put,zq1,zq2,zq3,zq4,zq5,zq6];refine tkp 11 (.pointer (some ⟨b8,37,none⟩)) hHeld ?_;simp only [Act.put,zq1,zq2,zq3,zq4,zq5,zq6];refine tkg 12 (.int .i64 pr) rfl (Or.inl ⟨by rfl,fun w hS=>by (have q1:=hS.2.2.2;go_simp)⟩) hHeld ?_;simp only [Act.put,zq1,zq2,zq3,zq4,zq5,zq6];refine wpAnyH_ready (rs:=[9]) (by kernel_rfl) (by simp) ?_;refine AllReadyH.cons rfl (fun KQ hK=>?_) AllReadyH.nil;go_simp;refine HHL.out.mono ?_;rintro e x1 ⟨rfl,hx⟩;rw [hx];clear hx x1;refine hK.out _ _ (HS.out) (fun hHeld=>?_);clear hK KQ;refine wpAnyH_ready (rs:=[13]) (by kernel_rfl) (by simp) ?_;refine AllReadyH.cons rfl (fun KQ hK=>?_) AllReadyH.nil;go_simp;refine HHR.out.mono ?_;rintro e x1 ⟨rfl,hx⟩;rw [hx];clear hx x1;refine hK.out _ _ (HS.out) (fun hHeld=>?_);clear hK KQ;refine wpAnyH_ready (rs:=[14]) (by kernel_rfl) (by simp) ?_;refine AllReadyH.cons rfl (fun KQ hK=>?_) AllReadyH.nil;go_simp;refine HIN.out.mono ?_;rintro e w4 ⟨rfl,hs4,nx4⟩;have HNX:=hidden nx4;clear nx4;refine hK.out _ _ (hs4) (fun hHeld=>?_);clear hK KQ;refine tkp 15 (.tuple #[.int .i64 hh,.int .i64 0]) hHeld ?_;simp only [Act.put,zq1,zq2,zq3,zq4,zq5,zq6];refine tkp 16 (.int .i64 hh) hHeld ?_;simp only [Act.put,zq1,zq2,zq3,zq4,zq5,zq6];refine tkp 17 (.int .i64 0) hHeld ?_;simp only [Act.put,zq1,zq2,zq3,zq4,zq5,zq6];refine tkp 18 (.int .i64 hh) hHeld ?_;simp only [Act.put,zq1,zq2,zq3,zq4,zq5,zq6];refine wpAnyH_done (by kernel_rfl) ?_ _;have c5:=(HIL.out _ HNX.out).cell;have HO:=hidden (owR_lst (owR_grow (HIL.out _ HNX.out).lst (grow_alloc w4 (.cells #[.int .i64 hh] 3))));have HF:=hidden (fun w5 v6=>HFIN.out w4 w5 v6 HNX.out);clear HFIN HIL HNX hHeld
        go_wp2_with (first
          |(at_builtin;refine wpList_appL _ rfl _ _ _ rfl 3 1 8 Tryz.underlying53 info_nat (by omega) _ ms.length (nats ms) rfl HO.out w4.heap.size [Value.int .i64 hh] rfl (Blk.new _ _ _) rfl (by intro u hu;simp at hu;subst hu;rfl) (by have:=HMS.out;simp only [maxLen];omega) (by have:=HMS.out;omega) ?_;intro v6 w5 l6 g6 h6;obtain ⟨f1,f2,f3⟩:=HF.out _ _ l6 g6 h6;have HF3:=hidden f3;obtain ⟨va6,vc6,rfl⟩:=lst_slice l6;clear l6 g6 h6 f3))
        exact ⟨⟨k+1,by omega,by go_num,HF3.out⟩,by simp [intOf];exact mea_step k1⟩
    · obtain rfl:k=nn:=by omega
      have nlt: ¬(k:Int)<(k:Int):=by omega
      obtain ⟨s,v5,hz,hm⟩:=HI.out;have hml:s.ms.length=k:=HZL.out k s (Nat.le_refl _) hz;have HHT:=hidden (handle11_any hm.il top (by rw [hml];exact HT.out) (by have:=HN.out;omega));have HE:=hidden (HPost.out s wr hz hm.hs);generalize (hdl s.ms top:Int)=y at HHT HE;clear hz hm hml HI HC HV HPP HL HR HS0 HZL hk hlt
      go_wp2_with (go_at_call 94;refine HHT.out.mono ?_;rintro e x1 ⟨rfl,hx⟩;rw [hx];clear hx x1)
      exact HE.out

end Go.Proofs.YtabiglnmfdpcfaaGreatDoor

namespace Go.Proofs.YtabiglnmfdpcfaaGreatDoor
variable {S fr:List Nat}
variable {b base bp g gs i j k m n room:Nat}
variable {cs cs1:Lz}
variable {lv v v':Value}
variable {w w0 w1 w4 wa wr:World}
variable {xs:List Value}
set_option maxHeartbeats 8000000
set_option maxRecDepth 20000
open Go.RowKit

theorem isInner_neg {ps:List Pn} (P:PlM wa w bp (.pointer (some ⟨g,0,none⟩)) ps lv) (i:Nat) (hi:i<ps.length) (h6:ps.length≤65536) (b:Bool) (hb:ps[i].inn=b):Kc 133 #[.pointer (some ⟨bp,0,none⟩),.int .i64 (-((i:Int)+1))] w fun e w'=>e=.returned (.bool b)∧w'=w:=by
  obtain ⟨gl,c,rfl,hr⟩:=P.at hi;have c1:=P.cells.2;have ck:w.cell? ⟨gl,i * 38,none⟩=some (.int .u8 (if b then 2 else 1)):=by
    have:=hr 0 (.int .u8 (if ps[i].inn then 2 else 1)) rfl;rw [hb] at this;exact this
  obtain ⟨nn,hnn⟩:∃q,q=ps.length:=⟨_,rfl⟩;rw [← hnn] at c1 hi h6;obtain ⟨z,hz⟩:∃z:Int,z= -((i:Int)+1):=⟨_,rfl⟩;obtain ⟨y,hy⟩:∃y:Int,y=(i:Int)+1:=⟨_,rfl⟩;have z0:z<0:=by omega
  have e1:wrap64 (-z)=y:=by rw [Go.IntWalk.wrap64_in _ (by omega)];omega
  have e2:wrap64 (y-1)=(i:Int):=by rw [Go.IntWalk.wrap64_in _ (by omega)];omega
  have i0:(0:Int)≤(i:Int):=by omega
  have i1:(i:Int)<(nn:Int):=by omega
  rw [← hz];clear P hr hnn hz hy hb h6;cases b with
  | false=>
    simp only [Bool.false_eq_true,if_false] at ck;go_enter Tryz.func133,Tryz.ntmps133
    go_wp2_with fail
    go_ret;exact ⟨rfl,rfl⟩
  | true=>
    simp only [if_true] at ck;go_enter Tryz.func133,Tryz.ntmps133
    go_wp2_with fail
    go_ret;exact ⟨rfl,rfl⟩

theorem isInner_pos {ps:List Pn} (P:PlM wa w bp (.pointer (some ⟨g,0,none⟩)) ps lv) (V:Kq [bp] wa fun w'=>Vw w' (.pointer (some ⟨g,0,none⟩)) true (cot cs) (cat cs)) (h:Nat) (b:Bool) (hb:b=true↔(sdC cs h).kind=2):Kc 133 #[.pointer (some ⟨bp,0,none⟩),.int .i64 (h:Int)] w fun e w'=>e=.returned (.bool b)∧Kb w w':=by
  have HKD:Hid (Kr w 108 #[.pointer (some ⟨g,0,none⟩),.int .i64 (h:Int)] (.int .u8 (sdC cs h).kind)):=fun w' hb=>by
    have:=kind_any (V _ (P.grow hb).mod) (h:Int);rwa [cat_nat] at this
  have c0:=P.cells.1;have z0: ¬(h:Int)<0:=by omega
  generalize (h:Int)=y at HKD z0 ⊢;generalize (sdC cs h).kind=k at HKD hb;clear P V
  by_cases hk:k=2
  · have:b=true:=hb.2 hk
    subst this hk;clear hb;go_enter Tryz.func133,Tryz.ntmps133
    go_wp2_with (go_at_call 108;refine (HKD.out _ (Below.refl _ _)).mono ?_;rintro e w1 ⟨rfl,b1⟩;have HB1:=hidden b1;clear b1)
    go_ret;exact ⟨rfl,HB1.out⟩
  · have:b=false:=by
      cases b with
      | false=>rfl
      | true=>exact absurd (hb.1 rfl) hk
    subst this;have hk2:(k == 2)=false:=by simpa using hk
    clear hb;go_enter Tryz.func133,Tryz.ntmps133
    go_wp2_with (go_at_call 108;refine (HKD.out _ (Below.refl _ _)).mono ?_;rintro e w1 ⟨rfl,b1⟩;have HB1:=hidden b1;clear b1)
    go_ret;exact ⟨rfl,HB1.out⟩

def InP (ps:List Pn) (q:Int):Prop:= -q≤(ps.length:Int)
theorem isInner_any {ps:List Pn} (P:PlM wa w bp (.pointer (some ⟨g,0,none⟩)) ps lv) (V:Kq [bp] wa fun w'=>Vw w' (.pointer (some ⟨g,0,none⟩)) true (cot cs) (cat cs)) (q:Int) (hq:InP ps q) (h6:ps.length≤65536) (b:Bool) (hb:b=true↔kdP cs ps q=2):Kc 133 #[.pointer (some ⟨bp,0,none⟩),.int .i64 q] w fun e w'=>e=.returned (.bool b)∧Kb w w':=by
  unfold InP at hq
  by_cases hn:q<0
  · obtain ⟨i,rfl⟩:∃i:Nat,q= -((i:Int)+1):=⟨(-q-1).toNat,by omega⟩
    have hi:i<ps.length:=by omega
    have hb2:ps[i].inn=b:=by
      rw [kdP,if_pos hn,show (- -((i:Int)+1)-1).toNat=i by omega,getElem!_pos ps i hi] at hb;cases b <;> cases hx:ps[i].inn <;> simp [hx] at hb ⊢
    exact (isInner_neg P i hi h6 b hb2).mono fun e w' ⟨e1,e2⟩=>⟨e1,by rw [e2];exact Below.refl _ _⟩
  · obtain ⟨h,rfl⟩:∃h:Nat,q=(h:Int):=⟨q.toNat,by omega⟩
    rw [kdP,if_neg hn,Int.toNat_natCast] at hb;exact isInner_pos P V h b hb

theorem pfork_any {ps:List Pn} (P:PlM wa w bp (.pointer (some ⟨g,0,none⟩)) ps lv) (V:Kq [bp] wa fun w'=>Vw w' (.pointer (some ⟨g,0,none⟩)) true (cot cs) (cat cs)) (h d:Nat) (hd:d<256):Kc 85 #[.pointer (some ⟨bp,0,none⟩),.int .i64 (h:Int),.int .i64 (d:Int)] w fun e w'=>e=.returned (.tuple #[.int .i64 (frkL cs h d:Int),.int .i64 (frkR cs h d:Int)])∧Kb w w':=by
  have HKD:Hid (Kr w 108 #[.pointer (some ⟨g,0,none⟩),.int .i64 (h:Int)] (.int .u8 (sdC cs h).kind)):=fun w' hb=>by
    have:=kind_any (V _ (P.grow hb).mod) (h:Int);rwa [cat_nat] at this
  have HSD:Hid (Kr w 130 #[.pointer (some ⟨g,0,none⟩),.int .i64 (h:Int)] (.tuple #[.int .i64 ((sdC cs h).l:Int),.int .i64 ((sdC cs h).r:Int)])):=fun w' hb=>by
    have:=sides_any (V _ (P.grow hb).mod) (h:Int);rwa [cat_nat] at this
  have HKY:Hid (Kr w 109 #[.pointer (some ⟨g,0,none⟩),.int .i64 (h:Int)] (.agg (B (sdC cs h).key))):=fun w' hb=>by
    have:=key_any (V _ (P.grow hb).mod) (h:Int);rwa [cat_nat] at this
  have hK:Key (sdC cs h).key:=by
    have:=(V.now.ok (h:Int)).hk;rwa [cat_nat] at this
  have HBT:Hid (∀w',Kc 31 #[.agg (B (sdC cs h).key),.int .i64 (d:Int)] w' fun e w''=>e=.returned (.int .i64 (kb (sdC cs h).key d))∧Below w'.heap.size w' w''):=fun w'=>by
    have:=bit_any (sdC cs h).key (d:Int) w' hK;rwa [kbi_in _ _ hd] at this
  have HC:Hid (∀w',Kb w w'→w'.cell? ⟨bp,0,none⟩=some (.pointer (some ⟨g,0,none⟩))):=fun w' hb=>(P.grow hb).cells.1
  have c0:=P.cells.1;have hq:=kb_two (sdC cs h).key d;unfold frkL frkR;generalize kb (sdC cs h).key d=q at HBT hq ⊢;generalize (sdC cs h).kind=k at HKD ⊢;generalize (sdC cs h).key=K at HKY HBT;generalize (sdC cs h).l=l at HSD ⊢;generalize (sdC cs h).r=r at HSD ⊢;clear P V hK hd
  by_cases hk:k=2
  · subst hk
    rw [if_pos rfl,if_pos rfl];generalize (h:Int)=y at *;generalize (d:Int)=dd at *;clear hq;go_enter Tryz.func85,Tryz.ntmps85
    go_wp2_with (first
      |(go_at_call 108;refine (HKD.out _ (Below.refl _ _)).mono ?_;rintro e w1 ⟨rfl,b1⟩;have HB1:=hidden b1;have c1:=HC.out _ b1;clear b1)
      |(go_at_call 130;refine (HSD.out _ HB1.out).mono ?_;rintro e w2 ⟨rfl,b2⟩;have HB2:=hidden (grow_trans HB1.out b2);clear b2))
    go_ret2;exact ⟨rfl,HB2.out⟩
  · rw [if_neg hk,if_neg hk]
    have hk2:(k == 2)=false:=by simpa using hk
    rcases hq with rfl | rfl
    · rw [if_neg (by omega),if_neg (by omega)]
      generalize (h:Int)=y at *;generalize (d:Int)=dd at *;go_enter Tryz.func85,Tryz.ntmps85
      go_wp2_with (first
        |(go_at_call 108;refine (HKD.out _ (Below.refl _ _)).mono ?_;rintro e w1 ⟨rfl,b1⟩;have HB1:=hidden b1;have c1:=HC.out _ b1;clear b1)
        |(go_at_call 109;refine (HKY.out _ HB1.out).mono ?_;rintro e w2 ⟨rfl,b2⟩;have HB2:=hidden (grow_trans HB1.out b2);clear b2)
        |(go_at_call 31;refine (HBT.out _).mono ?_;rintro e w3 ⟨rfl,b3⟩;have HB3:=hidden (grow_trans HB2.out b3);clear b3))
      go_ret2;exact ⟨rfl,HB3.out⟩
    · rw [if_pos rfl,if_pos rfl]
      generalize (h:Int)=y at *;generalize (d:Int)=dd at *;go_enter Tryz.func85,Tryz.ntmps85
      go_wp2_with (first
        |(go_at_call 108;refine (HKD.out _ (Below.refl _ _)).mono ?_;rintro e w1 ⟨rfl,b1⟩;have HB1:=hidden b1;have c1:=HC.out _ b1;clear b1)
        |(go_at_call 109;refine (HKY.out _ HB1.out).mono ?_;rintro e w2 ⟨rfl,b2⟩;have HB2:=hidden (grow_trans HB1.out b2);clear b2)
        |(go_at_call 31;refine (HBT.out _).mono ?_;rintro e w3 ⟨rfl,b3⟩;have HB3:=hidden (grow_trans HB2.out b3);clear b3))
      go_ret2;exact ⟨rfl,HB3.out⟩

theorem place_any {ps:List Pn} (P:PlM wa w bp (.pointer (some ⟨g,0,none⟩)) ps lv) (V:Kq [bp] wa fun w'=>Vw w' (.pointer (some ⟨g,0,none⟩)) true (cot cs) (cat cs)) (h:Nat) (K:Lq) (hK:Key K) (bb:Bool) (hbb:bb=true↔Plc cs h K):Kc 83 #[.pointer (some ⟨bp,0,none⟩),.int .i64 (h:Int),.agg (B K)] w fun e w'=>e=.returned (.bool bb)∧Kb w w':=by
  have HKD0:Hid (Kr w 108 #[.pointer (some ⟨g,0,none⟩),.int .i64 (h:Int)] (.int .u8 (sdC cs h).kind)):=fun w' hb=>by
    have:=kind_any (V _ (P.grow hb).mod) (h:Int);rwa [cat_nat] at this
  have HKY0:Hid (Kr w 109 #[.pointer (some ⟨g,0,none⟩),.int .i64 (h:Int)] (.agg (B (sdC cs h).key))):=fun w' hb=>by
    have:=key_any (V _ (P.grow hb).mod) (h:Int);rwa [cat_nat] at this
  have hk':Key (sdC cs h).key:=by
    have:=(V.now.ok (h:Int)).hk;rwa [cat_nat] at this
  have HC:Hid (∀w',Kb w w'→w'.cell? ⟨bp,0,none⟩=some (.pointer (some ⟨g,0,none⟩))):=fun w' hb=>(P.grow hb).cells.1
  have HPL:=hidden (pth_ln K hK.1);clear V P
  by_cases h0:h=0
  · have:bb=true:=hbb.2 (.inl h0)
    subst this;have y0:(h:Int)=0:=by omega
    generalize (h:Int)=y at HKD0 HKY0 y0 ⊢;subst y0;clear hbb h0 hk' hK;go_enter Tryz.func83,Tryz.ntmps83
    go_wp2_with ((with_reducible refine at_bxd 5 ?_);refine wpList_bx _ rfl _ _ rfl _ rfl ?_;intro w1 b5 hg5 hl5 B5 q5;have HQ5:=hidden q5;clear hg5 hl5 B5 q5)
    have HS:Hid (∀w',Kb w1 w'→w'.cell? ⟨bp,0,none⟩=some (.pointer (some ⟨g,0,none⟩))):=fun w' hb=>HC.out w' (grow_trans HQ5.out hb)
    have hb0:Kb w1 w1.drew:=below_drewN (Below.refl _ _) 1;refine wp_region_held_drew (S:=fun w'=>w'.cell? ⟨bp,0,none⟩=some (.pointer (some ⟨g,0,none⟩))) (by kernel_rfl) (HS.out _ (below_drewN (Below.refl _ _) 1)) (fun hHeld=>?_);refine tkp 0 (.int .i64 0) hHeld ?_;simp only [Act.put,zq1,zq2,zq4,zq5,zq6];refine tkp 1 (.bool true) hHeld ?_;simp only [Act.put,zq1,zq2,zq3,zq4,zq5,zq6];refine tkp 2 (.bool true) hHeld ?_;simp only [Act.put,zq1,zq2,zq3,zq4,zq5,zq6];refine tks 3 hHeld ?_;simp only [Act.put,zq1,zq2,zq3,zq4,zq5,zq6];refine tks 4 hHeld ?_;simp only [Act.put,zq1,zq2,zq3,zq4,zq5,zq6];refine tks 5 hHeld ?_;simp only [Act.put,zq1,zq2,zq3,zq4,zq5,zq6];refine tks 6 hHeld ?_;simp only [Act.put,zq1,zq2,zq3,zq4,zq5,zq6];refine tks 7 hHeld ?_;simp only [Act.put,zq1,zq2,zq3,zq4,zq5,zq6];refine tks 8 hHeld ?_;simp only [Act.put,zq1,zq2,zq3,zq4,zq5,zq6];refine tks 9 hHeld ?_;simp only [Act.put,zq1,zq2,zq3,zq4,zq5,zq6];refine tks 10 hHeld ?_;simp only [Act.put,zq1,zq2,zq3,zq4,zq5,zq6];refine tks 11 hHeld ?_;simp only [Act.put,zq1,zq2,zq3,zq4,zq5,zq6];refine tks 12 hHeld ?_;simp only [Act.put,zq1,zq2,zq3,zq4,zq5,zq6];refine tks 13 hHeld ?_;simp only [Act.put,zq1,zq2,zq3,zq4,zq5,zq6];refine tks 14 hHeld ?_;simp only [Act.put,zq1,zq2,zq3,zq4,zq5,zq6];refine tks 15 hHeld ?_;simp only [Act.put,zq1,zq2,zq3,zq4,zq5,zq6];refine tks 16 hHeld ?_;simp only [Act.put,zq1,zq2,zq3,zq4,zq5,zq6];refine tks 17 hHeld ?_;simp only [Act.put,zq1,zq2,zq3,zq4,zq5,zq6];refine tks 18 hHeld ?_;simp only [Act.put,zq1,zq2,zq3,zq4,zq5,zq6];refine tks 19 hHeld ?_;simp only [Act.put,zq1,zq2,zq3,zq4,zq5,zq6];refine tkp 20 (.bool true) hHeld ?_;simp only [Act.put,zq1,zq2,zq3,zq4,zq5,zq6];refine tkp 21 (.bool true) hHeld ?_;simp only [Act.put,zq1,zq2,zq3,zq4,zq5,zq6];refine wpAnyH_done (by kernel_rfl) ?_ _;go_wp2
    go_ret;exact ⟨rfl,grow_trans HQ5.out hb0⟩
  · have y0: ¬(h:Int)=0:=by omega
    have y1:((h:Int) == 0)=false:=by simpa using h0
    by_cases hk:(sdC cs h).kind=1
    · have hbe:bb=decide ((sdC cs h).key=K):=by
        have:bb=true↔(sdC cs h).key=K:=hbb.trans ⟨fun p=>(p.resolve_left h0).2,fun e=>.inr ⟨hk,e⟩⟩
        by_cases q:(sdC cs h).key=K
        · rw [decide_eq_true q]
          exact this.2 q
        · rw [decide_eq_false q]
          cases bb with
          | false=>rfl
          | true=>exact absurd (this.1 rfl) q
      have HEQ:Hid (∀w,(Op.equalIn 10000 34 (.agg (B (sdC cs h).key)) (.agg (B K))).run Tryz.prog w=.ok bb w):=fun w=>by rw [hbe];exact path_eq _ _ hk'.1 hK.1 w
      generalize (sdC cs h).key=K' at HKY0 HEQ;generalize (sdC cs h).kind=k at HKD0 hk;subst hk;generalize (h:Int)=y at HKD0 HKY0 y0 y1 ⊢;clear hbb h0 hk' hK hbe;go_enter Tryz.func83,Tryz.ntmps83
      go_wp2_with ((with_reducible refine at_bxd 5 ?_);refine wpList_bx _ rfl _ _ rfl _ rfl ?_;intro w1 b5 hg5 hl5 B5 q5;have HQ5:=hidden q5;have HB5:=hidden B5;clear hg5 hl5 B5 q5)
      have HS:Hid (∀w',Kb w1 w'→w'.cell? ⟨bp,0,none⟩=some (.pointer (some ⟨g,0,none⟩))∧w'.rangeAt b5 0 (B K).toList):=fun w' hb=>⟨HC.out w' (grow_trans HQ5.out hb),(HB5.out.grow hb).range⟩
      have HKD:Hid (Kr w1 108 #[.pointer (some ⟨g,0,none⟩),.int .i64 y] (.int .u8 1)):=fun w' hb=>HKD0.out w' (grow_trans HQ5.out hb)
      have HKY:Hid (Kr w1 109 #[.pointer (some ⟨g,0,none⟩),.int .i64 y] (.agg (B K'))):=fun w' hb=>HKY0.out w' (grow_trans HQ5.out hb)
      have hb0:Kb w1 w1.drew:=below_drewN (Below.refl _ _) 1;refine wp_region_held_drew (S:=fun w'=>w'.cell? ⟨bp,0,none⟩=some (.pointer (some ⟨g,0,none⟩))∧w'.rangeAt b5 0 (B K).toList) (by kernel_rfl) (HS.out _ (below_drewN (Below.refl _ _) 1)) (fun hHeld=>?_);refine tkp 0 (.int .i64 y) hHeld ?_;simp only [Act.put,zq1,zq2,zq4,zq5,zq6];refine tkp 1 (.bool false) hHeld ?_;simp only [Act.put,zq1,zq2,zq3,zq4,zq5,zq6];refine tkp 2 (.bool false) hHeld ?_;simp only [Act.put,zq1,zq2,zq3,zq4,zq5,zq6];refine tkp 3 (.pointer (some ⟨bp,0,none⟩)) hHeld ?_;simp only [Act.put,zq1,zq2,zq3,zq4,zq5,zq6];refine tkp 4 (.pointer (some ⟨bp,0,none⟩)) hHeld ?_;simp only [Act.put,zq1,zq2,zq3,zq4,zq5,zq6];refine tkp 5 (.pointer (some ⟨bp,0,none⟩)) hHeld ?_;simp only [Act.put,zq1,zq2,zq3,zq4,zq5,zq6];refine tkg 6 (.pointer (some ⟨g,0,none⟩)) rfl (Or.inl ⟨by rfl,fun w hS=>by (have q1:=hS.1;go_simp)⟩) hHeld ?_;simp only [Act.put,zq1,zq2,zq3,zq4,zq5,zq6];refine tkp 7 (.int .i64 y) hHeld ?_;simp only [Act.put,zq1,zq2,zq3,zq4,zq5,zq6];refine wpAnyH_ready (rs:=[8]) (by kernel_rfl) (by simp) ?_;refine AllReadyH.cons rfl (fun KQ hK=>?_) AllReadyH.nil;go_simp;refine (HKD.out _ hb0).mono ?_;rintro e x1 ⟨rfl,a1⟩;have hb1:=grow_trans hb0 a1;refine hK.out _ _ (HS.out _ hb1) (fun hHeld=>?_);clear hK KQ;refine tkp 9 (.bool true) hHeld ?_;simp only [Act.put,zq1,zq2,zq3,zq4,zq5,zq6];refine tkp 10 (.bool true) hHeld ?_;simp only [Act.put,zq1,zq2,zq3,zq4,zq5,zq6];refine tkp 11 (.pointer (some ⟨bp,0,none⟩)) hHeld ?_;simp only [Act.put,zq1,zq2,zq3,zq4,zq5,zq6];refine tkp 12 (.pointer (some ⟨bp,0,none⟩)) hHeld ?_;simp only [Act.put,zq1,zq2,zq3,zq4,zq5,zq6];refine tkp 13 (.pointer (some ⟨bp,0,none⟩)) hHeld ?_;simp only [Act.put,zq1,zq2,zq3,zq4,zq5,zq6];refine tkg 14 (.pointer (some ⟨g,0,none⟩)) rfl (Or.inl ⟨by rfl,fun w hS=>by (have q1:=hS.1;go_simp)⟩) hHeld ?_;simp only [Act.put,zq1,zq2,zq3,zq4,zq5,zq6];refine tkp 15 (.int .i64 y) hHeld ?_;simp only [Act.put,zq1,zq2,zq3,zq4,zq5,zq6];refine tkg 17 (.agg (B K)) rfl (yieldsIf_load_mid rfl 34 (.tmp 5) rfl b5 0 rfl (B K).toList _ (fun w hS=>hS.2) Tryz.underlying34 rfl HPL.out) hHeld ?_;simp only [Act.put,zq1,zq2,zq3,zq4,zq5,zq6];refine wpAnyH_ready (rs:=[16]) (by kernel_rfl) (by simp) ?_;refine AllReadyH.cons rfl (fun KQ hK=>?_) AllReadyH.nil;go_simp;refine (HKY.out _ hb1).mono ?_;rintro e x2 ⟨rfl,a2⟩;have hb2:=grow_trans hb1 a2;refine hK.out _ _ (HS.out _ hb2) (fun hHeld=>?_);clear hK KQ;refine tkg 18 (.bool bb) rfl (Or.inl ⟨by rfl,fun w hS=>by (have q1:=HEQ.out w;go_simp)⟩) hHeld ?_;simp only [Act.put,zq1,zq2,zq3,zq4,zq5,zq6];refine tkp 19 (.bool bb) hHeld ?_;simp only [Act.put,zq1,zq2,zq3,zq4,zq5,zq6];refine tkp 20 (.bool bb) hHeld ?_;simp only [Act.put,zq1,zq2,zq3,zq4,zq5,zq6];refine tkp 21 (.bool bb) hHeld ?_;simp only [Act.put,zq1,zq2,zq3,zq4,zq5,zq6];refine wpAnyH_done (by kernel_rfl) ?_ _;go_wp2
      go_ret;exact ⟨rfl,grow_trans HQ5.out hb2⟩
    · have:bb=false:=by
        cases bb with
        | false=>rfl
        | true=>exact absurd ((hbb.1 rfl).resolve_left h0).1 hk
      subst this;generalize (sdC cs h).kind=k at HKD0 hk;have hk2:(k == 1)=false:=by simpa using hk
      generalize (h:Int)=y at HKD0 HKY0 y0 y1 ⊢;clear hbb h0 hk' hK HKY0;go_enter Tryz.func83,Tryz.ntmps83
      go_wp2_with ((with_reducible refine at_bxd 5 ?_);refine wpList_bx _ rfl _ _ rfl _ rfl ?_;intro w1 b5 hg5 hl5 B5 q5;have HQ5:=hidden q5;clear hg5 hl5 B5 q5)
      have HS:Hid (∀w',Kb w1 w'→w'.cell? ⟨bp,0,none⟩=some (.pointer (some ⟨g,0,none⟩))):=fun w' hb=>HC.out w' (grow_trans HQ5.out hb)
      have HKD:Hid (Kr w1 108 #[.pointer (some ⟨g,0,none⟩),.int .i64 y] (.int .u8 k)):=fun w' hb=>HKD0.out w' (grow_trans HQ5.out hb)
      have hb0:Kb w1 w1.drew:=below_drewN (Below.refl _ _) 1;refine wp_region_held_drew (S:=fun w'=>w'.cell? ⟨bp,0,none⟩=some (.pointer (some ⟨g,0,none⟩))) (by kernel_rfl) (HS.out _ (below_drewN (Below.refl _ _) 1)) (fun hHeld=>?_);refine tkp 0 (.int .i64 y) hHeld ?_;simp only [Act.put,zq1,zq2,zq4,zq5,zq6];refine tkp 1 (.bool false) hHeld ?_;simp only [Act.put,zq1,zq2,zq3,zq4,zq5,zq6];refine tkp 2 (.bool false) hHeld ?_;simp only [Act.put,zq1,zq2,zq3,zq4,zq5,zq6];refine tkp 3 (.pointer (some ⟨bp,0,none⟩)) hHeld ?_;simp only [Act.put,zq1,zq2,zq3,zq4,zq5,zq6];refine tkp 4 (.pointer (some ⟨bp,0,none⟩)) hHeld ?_;simp only [Act.put,zq1,zq2,zq3,zq4,zq5,zq6];refine tkp 5 (.pointer (some ⟨bp,0,none⟩)) hHeld ?_;simp only [Act.put,zq1,zq2,zq3,zq4,zq5,zq6];refine tkg 6 (.pointer (some ⟨g,0,none⟩)) rfl (Or.inl ⟨by rfl,fun w hS=>by (have q1:=hS;go_simp)⟩) hHeld ?_;simp only [Act.put,zq1,zq2,zq3,zq4,zq5,zq6];refine tkp 7 (.int .i64 y) hHeld ?_;simp only [Act.put,zq1,zq2,zq3,zq4,zq5,zq6];refine wpAnyH_ready (rs:=[8]) (by kernel_rfl) (by simp) ?_;refine AllReadyH.cons rfl (fun KQ hK=>?_) AllReadyH.nil;go_simp;refine (HKD.out _ hb0).mono ?_;rintro e x1 ⟨rfl,a1⟩;have hb1:=grow_trans hb0 a1;refine hK.out _ _ (HS.out _ hb1) (fun hHeld=>?_);clear hK KQ;refine tkp 9 (.bool false) hHeld ?_;simp only [Act.put,zq1,zq2,zq3,zq4,zq5,zq6];refine tkp 10 (.bool false) hHeld ?_;simp only [Act.put,zq1,zq2,zq3,zq4,zq5,zq6];refine tks 11 hHeld ?_;simp only [Act.put,zq1,zq2,zq3,zq4,zq5,zq6];refine tks 12 hHeld ?_;simp only [Act.put,zq1,zq2,zq3,zq4,zq5,zq6];refine tks 13 hHeld ?_;simp only [Act.put,zq1,zq2,zq3,zq4,zq5,zq6];refine tks 14 hHeld ?_;simp only [Act.put,zq1,zq2,zq3,zq4,zq5,zq6];refine tks 15 hHeld ?_;simp only [Act.put,zq1,zq2,zq3,zq4,zq5,zq6];refine tks 16 hHeld ?_;simp only [Act.put,zq1,zq2,zq3,zq4,zq5,zq6];refine tks 17 hHeld ?_;simp only [Act.put,zq1,zq2,zq3,zq4,zq5,zq6];refine tks 18 hHeld ?_;simp only [Act.put,zq1,zq2,zq3,zq4,zq5,zq6];refine tkp 19 (.bool false) hHeld ?_;simp only [Act.put,zq1,zq2,zq3,zq4,zq5,zq6];refine tkp 20 (.bool false) hHeld ?_;simp only [Act.put,zq1,zq2,zq3,zq4,zq5,zq6];refine tkp 21 (.bool false) hHeld ?_;simp only [Act.put,zq1,zq2,zq3,zq4,zq5,zq6];refine wpAnyH_done (by kernel_rfl) ?_ _;go_wp2
      go_ret;exact ⟨rfl,grow_trans HQ5.out hb1⟩

end Go.Proofs.YtabiglnmfdpcfaaGreatDoor

namespace Go.Proofs.YtabiglnmfdpcfaaGreatDoor
variable {S fr:List Nat}
variable {b base bp g gs i j k m n room:Nat}
variable {cs cs1:Lz}
variable {lv v v':Value}
variable {w w0 w1 w4 wa wr:World}
variable {xs:List Value}
set_option maxHeartbeats 8000000
set_option maxRecDepth 20000
open Go.RowKit

def BlnPost (wa:World) (bp:Nat) (sv:Value) (q:Int) (ps':List Pn) (e:Ending) (w':World):Prop:=e=.returned (.int .i64 q)∧∃lv',PlM wa w' bp sv ps' lv'

theorem pleaf_gone {ps:List Pn} (P:PlM wa w bp (.pointer (some ⟨g,0,none⟩)) ps lv) (h:Int) (x:Wt) (hx:WtOk x) (hg:x.g=true):Kc 84 #[.pointer (some ⟨bp,0,none⟩),.int .i64 h,.agg (encW x).toArray] w (BlnPost wa bp (.pointer (some ⟨g,0,none⟩)) 0 ps):=by
  have HP:=hidden P;have HPost:Hid (∀w',(∃lv',PlM wa w' bp (.pointer (some ⟨g,0,none⟩)) ps lv')→BlnPost wa bp (.pointer (some ⟨g,0,none⟩)) 0 ps (.returned (.int .i64 0)) w'):=fun w' q=>⟨rfl,q⟩
  have HG:Hid (∀(w':World) (b:Nat),Blk w' b 37 (encW x).toArray→w'.cell? ⟨b,32,none⟩=some (.bool true)):=fun w' b hb=>by
    have:=encW_gone (g:=b) (o:=0) (x:=x) (by have:=hb.range;simpa using this) hx.hk.1;rw [hg] at this;simpa using this
  generalize BlnPost wa bp (.pointer (some ⟨g,0,none⟩)) 0 ps=PP at HPost ⊢;generalize (encW x).toArray=X at HG ⊢;clear P hx hg;go_enter Tryz.func84,Tryz.ntmps84
  go_wp2_with ((with_reducible refine at_bxd 5 ?_);refine wpList_bx _ rfl _ _ rfl _ rfl ?_;intro w1 b5 hg5 hl5 B5 q5;have HQ5:=hidden q5;have c32:=HG.out _ _ B5;clear hg5 hl5 B5 q5)
  exact HPost.out _ ⟨_,HP.out.grow HQ5.out⟩

theorem pleaf_same {ps:List Pn} (P:PlM wa w bp (.pointer (some ⟨g,0,none⟩)) ps lv) (V:Kq [bp] wa fun w'=>Vw w' (.pointer (some ⟨g,0,none⟩)) true (cot cs) (cat cs)) (h:Nat) (h0:h≠0) (x:Wt) (hx:WtOk x) (hg:x.g=false) (hrd:Kq [bp] wa fun w'=>Reads w' x.v x.b) (hs:(sdC cs h).bs=x.b):Kc 84 #[.pointer (some ⟨bp,0,none⟩),.int .i64 (h:Int),.agg (encW x).toArray] w (BlnPost wa bp (.pointer (some ⟨g,0,none⟩)) (h:Int) ps):=by
  have HP:=hidden P;have HPost:Hid (∀w',(∃lv',PlM wa w' bp (.pointer (some ⟨g,0,none⟩)) ps lv')→BlnPost wa bp (.pointer (some ⟨g,0,none⟩)) (h:Int) ps (.returned (.int .i64 (h:Int))) w'):=fun w' q=>⟨rfl,q⟩
  obtain ⟨va,vc,hv⟩:=hx.hv;have HG:Hid (∀(w':World) (b:Nat),Blk w' b 37 (encW x).toArray→w'.cell? ⟨b,32,none⟩=some (.bool false)∧w'.cell? ⟨b,33,none⟩=some (.slice va x.b.length vc)):=fun w' b hb=>by
    have hr:w'.rangeAt b 0 (encW x):=by have:=hb.range;simpa using this
    have h1:=encW_gone hr hx.hk.1;have h2:=encW_val hr hx.hk.1;rw [hg] at h1;rw [hv] at h2;exact ⟨by simpa using h1,by simpa using h2⟩
  have HVL0:Hid (∀w',Kb w w'→Kc 128 #[.pointer (some ⟨g,0,none⟩),.int .i64 (h:Int)] w' fun e w''=>∃v' sp,e=.returned v'∧Own w'.heap.size w'' v' (sdC cs h).bs sp∧Below w'.heap.size w' w''):=fun w' hb=>by
    have:=valueS_any (V _ (P.grow hb).mod) (h:Int);rwa [cat_nat] at this
  have HEQ0:Hid (∀w' v',Reads w' v' (sdC cs h).bs→Kb w w'→Kc 112 #[v',.slice va x.b.length vc] w' fun e w''=>e=.returned (.bool true)∧w''=w'):=fun w' v' hr hb=>by
    have:=equal_any v' (.slice va x.b.length vc) (sdC cs h).bs x.b w' hr (by rw [← hv];exact hrd w' (P.grow hb).mod);rwa [decide_eq_true hs] at this
  have HC:Hid (∀w',Kb w w'→w'.cell? ⟨bp,0,none⟩=some (.pointer (some ⟨g,0,none⟩))):=fun w' hb=>(P.grow hb).cells.1
  have y0: ¬(h:Int)=0:=by omega
  have y1:((h:Int) == 0)=false:=by simpa using h0
  generalize BlnPost wa bp (.pointer (some ⟨g,0,none⟩)) (h:Int) ps=PP at HPost ⊢;generalize (encW x).toArray=X at HG ⊢;generalize (h:Int)=y at HPost HVL0 y0 y1 ⊢;generalize (sdC cs h).bs=bs at HVL0 HEQ0 hs;generalize x.b.length=vn at HG HEQ0;clear P V hx hg hrd hs hv h0;go_enter Tryz.func84,Tryz.ntmps84
  go_wp2_with ((with_reducible refine at_bxd 5 ?_);refine wpList_bx _ rfl _ _ rfl _ rfl ?_;intro w1 b5 hg5 hl5 B5 q5;have HQ5:=hidden q5;have HB5:=hidden B5;obtain ⟨c32,c33⟩:=HG.out _ _ B5;clear hg5 hl5 B5 q5)
  have HS:Hid (∀w',Kb w1 w'→w'.cell? ⟨bp,0,none⟩=some (.pointer (some ⟨g,0,none⟩))∧w'.cell? ⟨b5,33,none⟩=some (.slice va vn vc)):=fun w' hb=>⟨HC.out w' (grow_trans HQ5.out hb),(HG.out _ _ (HB5.out.grow hb)).2⟩
  have HVL:Hid (∀w',Kb w1 w'→Kc 128 #[.pointer (some ⟨g,0,none⟩),.int .i64 y] w' fun e w''=>∃v' sp,e=.returned v'∧Own w'.heap.size w'' v' bs sp∧Below w'.heap.size w' w''):=fun w' hb=>HVL0.out w' (grow_trans HQ5.out hb)
  have HEQ:Hid (∀w' v',Reads w' v' bs→Kb w1 w'→Kc 112 #[v',.slice va vn vc] w' fun e w''=>e=.returned (.bool true)∧w''=w'):=fun w' v' hr hb=>HEQ0.out w' v' hr (grow_trans HQ5.out hb)
  have hb0:Kb w1 w1.drew:=below_drewN (Below.refl _ _) 1;refine wp_region_held_drew (S:=fun w'=>w'.cell? ⟨bp,0,none⟩=some (.pointer (some ⟨g,0,none⟩))∧w'.cell? ⟨b5,33,none⟩=some (.slice va vn vc)) (by kernel_rfl) (HS.out _ (below_drewN (Below.refl _ _) 1)) (fun hHeld=>?_);refine tkp 0 (.int .i64 y) hHeld ?_;simp only [Act.put,zq1,zq2,zq4,zq5,zq6];refine tkp 1 (.bool true) hHeld ?_;simp only [Act.put,zq1,zq2,zq3,zq4,zq5,zq6];refine tkp 2 (.bool true) hHeld ?_;simp only [Act.put,zq1,zq2,zq3,zq4,zq5,zq6];refine tkp 3 (.pointer (some ⟨bp,0,none⟩)) hHeld ?_;simp only [Act.put,zq1,zq2,zq3,zq4,zq5,zq6];refine tkp 4 (.pointer (some ⟨bp,0,none⟩)) hHeld ?_;simp only [Act.put,zq1,zq2,zq3,zq4,zq5,zq6];refine tkp 5 (.pointer (some ⟨bp,0,none⟩)) hHeld ?_;simp only [Act.put,zq1,zq2,zq3,zq4,zq5,zq6];refine tkg 6 (.pointer (some ⟨g,0,none⟩)) rfl (Or.inl ⟨by rfl,fun w hS=>by (have q1:=hS.1;go_simp)⟩) hHeld ?_;simp only [Act.put,zq1,zq2,zq3,zq4,zq5,zq6];refine tkp 7 (.int .i64 y) hHeld ?_;simp only [Act.put,zq1,zq2,zq3,zq4,zq5,zq6];refine tkp 9 (.pointer (some ⟨b5,33,none⟩)) hHeld ?_;simp only [Act.put,zq1,zq2,zq3,zq4,zq5,zq6];refine tkg 10 (.slice va vn vc) rfl (Or.inl ⟨by rfl,fun w hS=>by (have q1:=hS.2;go_simp)⟩) hHeld ?_;simp only [Act.put,zq1,zq2,zq3,zq4,zq5,zq6];refine wpAnyH_ready (rs:=[8]) (by kernel_rfl) (by simp) ?_;refine AllReadyH.cons rfl (fun KQ hK=>?_) AllReadyH.nil;go_simp;refine (HVL.out _ hb0).mono ?_;rintro e x1 ⟨v',sp,rfl,o1,a1⟩;have hb1:=grow_trans hb0 a1;refine hK.out _ _ (HS.out _ hb1) (fun hHeld=>?_);clear hK KQ;refine wpAnyH_ready (rs:=[11]) (by kernel_rfl) (by simp) ?_;refine AllReadyH.cons rfl (fun KQ hK=>?_) AllReadyH.nil;go_simp;refine (HEQ.out _ _ o1.reads hb1).mono ?_;rintro e x2 ⟨rfl,hx⟩;rw [hx];clear hx x2;refine hK.out _ _ (HS.out _ hb1) (fun hHeld=>?_);clear hK KQ;refine tkp 12 (.bool true) hHeld ?_;simp only [Act.put,zq1,zq2,zq3,zq4,zq5,zq6];refine tkp 13 (.bool true) hHeld ?_;simp only [Act.put,zq1,zq2,zq3,zq4,zq5,zq6];refine wpAnyH_done (by kernel_rfl) ?_ _;go_wp2
  exact HPost.out _ ⟨_,HP.out.grow (grow_trans HQ5.out hb1)⟩

theorem pleaf_new {ps:List Pn} (P:PlM wa w bp (.pointer (some ⟨g,0,none⟩)) ps lv) (V:Kq [bp] wa fun w'=>Vw w' (.pointer (some ⟨g,0,none⟩)) true (cot cs) (cat cs)) (h:Nat) (x:Wt) (hx:WtOk x) (hg:x.g=false) (hrd:Kq [bp] wa fun w'=>Reads w' x.v x.b) (hs: ¬(h≠0∧(sdC cs h).bs=x.b)) (h6:ps.length+1≤65536):Kc 84 #[.pointer (some ⟨bp,0,none⟩),.int .i64 (h:Int),.agg (encW x).toArray] w (BlnPost wa bp (.pointer (some ⟨g,0,none⟩)) (-((ps.length:Int)+1)) (ps++[pnL x])):=by
  obtain ⟨qq,hqq⟩:∃q,q= -((ps.length:Int)+1):=⟨_,rfl⟩;obtain ⟨va,vc,hv⟩:=hx.hv;have HG:Hid (∀(w':World) (b:Nat),Blk w' b 37 (encW x).toArray→w'.cell? ⟨b,32,none⟩=some (.bool false)∧w'.cell? ⟨b,33,none⟩=some (.slice va x.b.length vc)):=fun w' b hb=>by
    have hr:w'.rangeAt b 0 (encW x):=by have:=hb.range;simpa using this
    have h1:=encW_gone hr hx.hk.1;have h2:=encW_val hr hx.hk.1;rw [hg] at h1;rw [hv] at h2;exact ⟨by simpa using h1,by simpa using h2⟩
  have HAD:Hid (∀w',Kb w w'→Kc 129 #[.pointer (some ⟨bp,0,none⟩),.agg (encPl (pnL x)).toArray] w' fun e w''=>e=.returned (.int .i64 qq)∧BlnPost wa bp (.pointer (some ⟨g,0,none⟩)) qq (ps++[pnL x]) (.returned (.int .i64 qq)) w''):=fun w' hb=>(padd_any (P.grow hb) (pnL x) hx h6).mono fun e w'' ⟨e1,e2⟩=>⟨by rw [hqq];exact e1,rfl,e2⟩
  have HBU:=hidden (built_pnL x hx);have HSZ:Hid ((Tryz.prog.info? 37).map (·.size)=some (encW x).toArray.size):=by show _=_;rw [List.size_toArray,hx.len];exact size_write
  have HUW:Hid (∃fs,Tryz.prog.underlying 37=some (.struct fs)):=u_write;obtain ⟨fs,hfs⟩:=HUW.out;have HFS:=hidden hfs;have HVL0:Hid (∀w',Kb w w'→Kc 128 #[.pointer (some ⟨g,0,none⟩),.int .i64 (h:Int)] w' fun e w''=>∃v' sp,e=.returned v'∧Own w'.heap.size w'' v' (sdC cs h).bs sp∧Below w'.heap.size w' w''):=fun w' hb=>by
    have:=valueS_any (V _ (P.grow hb).mod) (h:Int);rwa [cat_nat] at this
  have HEQ0:Hid (h≠0→∀w' v',Reads w' v' (sdC cs h).bs→Kb w w'→Kc 112 #[v',.slice va x.b.length vc] w' fun e w''=>e=.returned (.bool false)∧w''=w'):=fun h0 w' v' hr hb=>by
    have:=equal_any v' (.slice va x.b.length vc) (sdC cs h).bs x.b w' hr (by rw [← hv];exact hrd w' (P.grow hb).mod);rwa [decide_eq_false (fun e=>hs ⟨h0,e⟩)] at this
  have HC:Hid (∀w',Kb w w'→w'.cell? ⟨bp,0,none⟩=some (.pointer (some ⟨g,0,none⟩))):=fun w' hb=>(P.grow hb).cells.1
  rw [← hqq];generalize BlnPost wa bp (.pointer (some ⟨g,0,none⟩)) qq (ps++[pnL x])=PP at HAD ⊢;generalize (encPl (pnL x)).toArray=XP at HAD HBU;generalize (encW x).toArray=X at HG HBU HSZ ⊢;generalize (sdC cs h).bs=bs at HVL0 HEQ0 hs;generalize x.b.length=vn at HG HEQ0;clear P V hx hg hrd hs hv h6 HUW hfs hqq
  by_cases h0:h=0
  · have y0:(h:Int)=0:=by omega
    generalize (h:Int)=y at HVL0 y0 ⊢;subst y0;clear h0 HEQ0 HVL0;go_enter Tryz.func84,Tryz.ntmps84
    go_wp2_with ((with_reducible refine at_bxd 5 ?_);refine wpList_bx _ rfl _ _ rfl _ rfl ?_;intro w1 b5 hg5 hl5 B5 q5;have HQ5:=hidden q5;have HB5:=hidden B5;obtain ⟨c32,c33⟩:=HG.out _ _ B5;clear hg5 hl5 B5 q5)
    have HS:Hid (∀w',Kb w1 w'→w'.cell? ⟨bp,0,none⟩=some (.pointer (some ⟨g,0,none⟩))∧w'.cell? ⟨b5,33,none⟩=some (.slice va vn vc)):=fun w' hb=>⟨HC.out w' (grow_trans HQ5.out hb),(HG.out _ _ (HB5.out.grow hb)).2⟩
    have hb0:Kb w1 w1.drew:=below_drewN (Below.refl _ _) 1;refine wp_region_held_drew (S:=fun w'=>w'.cell? ⟨bp,0,none⟩=some (.pointer (some ⟨g,0,none⟩))∧w'.cell? ⟨b5,33,none⟩=some (.slice va vn vc)) (by kernel_rfl) (HS.out _ (below_drewN (Below.refl _ _) 1)) (fun hHeld=>?_);refine tkp 0 (.int .i64 0) hHeld ?_;simp only [Act.put,zq1,zq2,zq4,zq5,zq6];refine tkp 1 (.bool false) hHeld ?_;simp only [Act.put,zq1,zq2,zq3,zq4,zq5,zq6];refine tkp 2 (.bool false) hHeld ?_;simp only [Act.put,zq1,zq2,zq3,zq4,zq5,zq6];refine tks 3 hHeld ?_;simp only [Act.put,zq1,zq2,zq3,zq4,zq5,zq6];refine tks 4 hHeld ?_;simp only [Act.put,zq1,zq2,zq3,zq4,zq5,zq6];refine tks 5 hHeld ?_;simp only [Act.put,zq1,zq2,zq3,zq4,zq5,zq6];refine tks 6 hHeld ?_;simp only [Act.put,zq1,zq2,zq3,zq4,zq5,zq6];refine tks 7 hHeld ?_;simp only [Act.put,zq1,zq2,zq3,zq4,zq5,zq6];refine tks 8 hHeld ?_;simp only [Act.put,zq1,zq2,zq3,zq4,zq5,zq6];refine tks 9 hHeld ?_;simp only [Act.put,zq1,zq2,zq3,zq4,zq5,zq6];refine tks 10 hHeld ?_;simp only [Act.put,zq1,zq2,zq3,zq4,zq5,zq6];refine tks 11 hHeld ?_;simp only [Act.put,zq1,zq2,zq3,zq4,zq5,zq6];refine tkp 12 (.bool false) hHeld ?_;simp only [Act.put,zq1,zq2,zq3,zq4,zq5,zq6];refine tkp 13 (.bool false) hHeld ?_;simp only [Act.put,zq1,zq2,zq3,zq4,zq5,zq6];refine wpAnyH_done (by kernel_rfl) ?_ _;have HB6:=hidden (HB5.out.grow hb0);have HQ6:=hidden (grow_trans HQ5.out hb0);clear hHeld hb0
    go_wp2_with (first
      |((with_reducible refine at_ldd 26 5 ?_);refine wpList_lds _ rfl _ _ rfl b5 _ _ rfl HB6.out HFS.out HSZ.out ?_)
      |((with_reducible refine at_bdd 27 ?_);refine wpList_bld _ rfl _ _ rfl _ (by rw [List.map_toArray];exact HBU.out) ?_)
      |(go_at_call 129;refine (HAD.out _ HQ6.out).mono ?_;rintro e w3 ⟨rfl,ha⟩;have HA:=hidden ha;clear ha))
    exact HA.out
  · have y0: ¬(h:Int)=0:=by omega
    have y1:((h:Int) == 0)=false:=by simpa using h0
    have HEQ1:=hidden (HEQ0.out h0);generalize (h:Int)=y at HVL0 y0 y1 ⊢;clear h0 HEQ0;go_enter Tryz.func84,Tryz.ntmps84
    go_wp2_with ((with_reducible refine at_bxd 5 ?_);refine wpList_bx _ rfl _ _ rfl _ rfl ?_;intro w1 b5 hg5 hl5 B5 q5;have HQ5:=hidden q5;have HB5:=hidden B5;obtain ⟨c32,c33⟩:=HG.out _ _ B5;clear hg5 hl5 B5 q5)
    have HS:Hid (∀w',Kb w1 w'→w'.cell? ⟨bp,0,none⟩=some (.pointer (some ⟨g,0,none⟩))∧w'.cell? ⟨b5,33,none⟩=some (.slice va vn vc)):=fun w' hb=>⟨HC.out w' (grow_trans HQ5.out hb),(HG.out _ _ (HB5.out.grow hb)).2⟩
    have HVL:Hid (∀w',Kb w1 w'→Kc 128 #[.pointer (some ⟨g,0,none⟩),.int .i64 y] w' fun e w''=>∃v' sp,e=.returned v'∧Own w'.heap.size w'' v' bs sp∧Below w'.heap.size w' w''):=fun w' hb=>HVL0.out w' (grow_trans HQ5.out hb)
    have HEQ:Hid (∀w' v',Reads w' v' bs→Kb w1 w'→Kc 112 #[v',.slice va vn vc] w' fun e w''=>e=.returned (.bool false)∧w''=w'):=fun w' v' hr hb=>HEQ1.out w' v' hr (grow_trans HQ5.out hb)
    have hb0:Kb w1 w1.drew:=below_drewN (Below.refl _ _) 1;refine wp_region_held_drew (S:=fun w'=>w'.cell? ⟨bp,0,none⟩=some (.pointer (some ⟨g,0,none⟩))∧w'.cell? ⟨b5,33,none⟩=some (.slice va vn vc)) (by kernel_rfl) (HS.out _ (below_drewN (Below.refl _ _) 1)) (fun hHeld=>?_);refine tkp 0 (.int .i64 y) hHeld ?_;simp only [Act.put,zq1,zq2,zq4,zq5,zq6];refine tkp 1 (.bool true) hHeld ?_;simp only [Act.put,zq1,zq2,zq3,zq4,zq5,zq6];refine tkp 2 (.bool true) hHeld ?_;simp only [Act.put,zq1,zq2,zq3,zq4,zq5,zq6];refine tkp 3 (.pointer (some ⟨bp,0,none⟩)) hHeld ?_;simp only [Act.put,zq1,zq2,zq3,zq4,zq5,zq6];refine tkp 4 (.pointer (some ⟨bp,0,none⟩)) hHeld ?_;simp only [Act.put,zq1,zq2,zq3,zq4,zq5,zq6];refine tkp 5 (.pointer (some ⟨bp,0,none⟩)) hHeld ?_;simp only [Act.put,zq1,zq2,zq3,zq4,zq5,zq6];refine tkg 6 (.pointer (some ⟨g,0,none⟩)) rfl (Or.inl ⟨by rfl,fun w hS=>by (have q1:=hS.1;go_simp)⟩) hHeld ?_;simp only [Act.put,zq1,zq2,zq3,zq4,zq5,zq6];refine tkp 7 (.int .i64 y) hHeld ?_;simp only [Act.put,zq1,zq2,zq3,zq4,zq5,zq6];refine tkp 9 (.pointer (some ⟨b5,33,none⟩)) hHeld ?_;simp only [Act.put,zq1,zq2,zq3,zq4,zq5,zq6];refine tkg 10 (.slice va vn vc) rfl (Or.inl ⟨by rfl,fun w hS=>by (have q1:=hS.2;go_simp)⟩) hHeld ?_;simp only [Act.put,zq1,zq2,zq3,zq4,zq5,zq6];refine wpAnyH_ready (rs:=[8]) (by kernel_rfl) (by simp) ?_;refine AllReadyH.cons rfl (fun KQ hK=>?_) AllReadyH.nil;go_simp;refine (HVL.out _ hb0).mono ?_;rintro e x1 ⟨v',sp,rfl,o1,a1⟩;have hb1:=grow_trans hb0 a1;refine hK.out _ _ (HS.out _ hb1) (fun hHeld=>?_);clear hK KQ;refine wpAnyH_ready (rs:=[11]) (by kernel_rfl) (by simp) ?_;refine AllReadyH.cons rfl (fun KQ hK=>?_) AllReadyH.nil;go_simp;refine (HEQ.out _ _ o1.reads hb1).mono ?_;rintro e x2 ⟨rfl,hx⟩;rw [hx];clear hx x2;refine hK.out _ _ (HS.out _ hb1) (fun hHeld=>?_);clear hK KQ;refine tkp 12 (.bool false) hHeld ?_;simp only [Act.put,zq1,zq2,zq3,zq4,zq5,zq6];refine tkp 13 (.bool false) hHeld ?_;simp only [Act.put,zq1,zq2,zq3,zq4,zq5,zq6];refine wpAnyH_done (by kernel_rfl) ?_ _;have HB6:=hidden (HB5.out.grow hb1);have HQ6:=hidden (grow_trans HQ5.out hb1);clear hHeld hb0 hb1 o1 a1
    go_wp2_with (first
      |((with_reducible refine at_ldd 26 5 ?_);refine wpList_lds _ rfl _ _ rfl b5 _ _ rfl HB6.out HFS.out HSZ.out ?_)
      |((with_reducible refine at_bdd 27 ?_);refine wpList_bld _ rfl _ _ rfl _ (by rw [List.map_toArray];exact HBU.out) ?_)
      |(go_at_call 129;refine (HAD.out _ HQ6.out).mono ?_;rintro e w3 ⟨rfl,ha⟩;have HA:=hidden ha;clear ha))
    exact HA.out

theorem jn_r {ps:List Pn} {a b:Int} (d:Nat) (h:a=0∧kdP cs ps b≠2):jnQ cs ps a b=b∧jnP cs ps d a b=ps:=⟨if_pos h,if_pos h⟩
theorem jn_l {ps:List Pn} {a b:Int} (d:Nat) (h1: ¬(a=0∧kdP cs ps b≠2)) (h:b=0∧kdP cs ps a≠2):jnQ cs ps a b=a∧jnP cs ps d a b=ps:=⟨(if_neg h1).trans (if_pos h),(if_neg h1).trans (if_pos h)⟩
theorem jn_i {ps:List Pn} {a b:Int} (d:Nat) (h1: ¬(a=0∧kdP cs ps b≠2)) (h: ¬(b=0∧kdP cs ps a≠2)):jnQ cs ps a b= -((ps.length:Int)+1)∧jnP cs ps d a b=ps++[pnI d a b]:=⟨(if_neg h1).trans (if_neg h),(if_neg h1).trans (if_neg h)⟩

theorem pjoin_any {ps:List Pn} (P:PlM wa w bp (.pointer (some ⟨g,0,none⟩)) ps lv) (V:Kq [bp] wa fun w'=>Vw w' (.pointer (some ⟨g,0,none⟩)) true (cot cs) (cat cs)) (d:Nat) (a b:Int) (ha:InP ps a) (hb:InP ps b) (h6:ps.length+1≤65536):Kc 87 #[.pointer (some ⟨bp,0,none⟩),.int .i64 (d:Int),.int .i64 a,.int .i64 b] w (BlnPost wa bp (.pointer (some ⟨g,0,none⟩)) (jnQ cs ps a b) (jnP cs ps d a b)):=by
  have h65:ps.length≤65536:=by omega
  have HP:=hidden P;have HIA:Hid (∀w' r,Kb w w'→(r=true↔kdP cs ps a=2)→Kc 133 #[.pointer (some ⟨bp,0,none⟩),.int .i64 a] w' fun e w''=>e=.returned (.bool r)∧Below w'.heap.size w' w''):=fun w' r hw hr=>isInner_any (P.grow hw) V a ha h65 r hr
  have HIB:Hid (∀w' r,Kb w w'→(r=true↔kdP cs ps b=2)→Kc 133 #[.pointer (some ⟨bp,0,none⟩),.int .i64 b] w' fun e w''=>e=.returned (.bool r)∧Below w'.heap.size w' w''):=fun w' r hw hr=>isInner_any (P.grow hw) V b hb h65 r hr
  obtain ⟨qq,hqq⟩:∃q,q= -((ps.length:Int)+1):=⟨_,rfl⟩;have HAD:Hid (∀w',Kb w w'→Kc 129 #[.pointer (some ⟨bp,0,none⟩),.agg (encPl (pnI d a b)).toArray] w' fun e w''=>e=.returned (.int .i64 qq)∧BlnPost wa bp (.pointer (some ⟨g,0,none⟩)) qq (ps++[pnI d a b]) (.returned (.int .i64 qq)) w''):=fun w' hb=>(padd_any (P.grow hb) (pnI d a b) wtZ_ok h6).mono fun e w'' ⟨e1,e2⟩=>⟨by rw [hqq];exact e1,rfl,e2⟩
  have HBU:=hidden (built_pnI d a b);have z2:kdP cs ps 0≠2:=by
    rw [kdP,if_neg (by omega)];show ¬zc.kind=2;decide
  generalize (encPl (pnI d a b)).toArray=XP at HAD HBU
  by_cases a0:a=0
  · subst a0
    by_cases kb:kdP cs ps b=2
    · have b0: ¬b=0:=fun e=>z2 (by rw [← e];exact kb)
      have b1:(b == 0)=false:=by simpa using b0
      obtain ⟨j1,j2⟩:=jn_i (cs:=cs) (ps:=ps) (a:=0) (b:=b) d (fun q=>q.2 kb) (fun q=>b0 q.1);rw [j1,j2,← hqq];clear j1 j2;have HIN:Hid (Kr w 133 #[.pointer (some ⟨bp,0,none⟩),.int .i64 b] (.bool true)):=fun w' hw=>HIB.out w' true hw (by simp [kb])
      generalize BlnPost wa bp (.pointer (some ⟨g,0,none⟩)) qq (ps++[pnI d 0 b])=PP at HAD ⊢;generalize (d:Int)=dd at HBU ⊢;clear P V ha hb h6 h65 HIA HIB hqq z2 kb HP;go_enter Tryz.func87,Tryz.ntmps87
      go_wp2_with (first
        |(go_at_call 133;refine (HIN.out _ (Below.refl _ _)).mono ?_;rintro e w1 ⟨rfl,q1⟩;have HQ1:=hidden q1;clear q1)
        |((with_reducible refine at_bdd 33 ?_);refine wpList_bld _ rfl _ _ rfl _ (by rw [List.map_toArray];exact HBU.out) ?_)
        |(go_at_call 129;refine (HAD.out _ HQ1.out).mono ?_;rintro e w3 ⟨rfl,hA⟩;have HA:=hidden hA;clear hA))
      exact HA.out
    · obtain ⟨j1,j2⟩:=jn_r (cs:=cs) (ps:=ps) (a:=0) (b:=b) d ⟨rfl,kb⟩
      rw [j1,j2];clear j1 j2;have HIN:Hid (Kr w 133 #[.pointer (some ⟨bp,0,none⟩),.int .i64 b] (.bool false)):=fun w' hw=>HIB.out w' false hw (by simp [kb])
      have HPost:Hid (∀w',(∃lv',PlM wa w' bp (.pointer (some ⟨g,0,none⟩)) ps lv')→BlnPost wa bp (.pointer (some ⟨g,0,none⟩)) b ps (.returned (.int .i64 b)) w'):=fun w' q=>⟨rfl,q⟩
      generalize BlnPost wa bp (.pointer (some ⟨g,0,none⟩)) b ps=PP at HPost ⊢;generalize (d:Int)=dd at HBU ⊢;clear P V ha hb h6 h65 HIA HIB hqq z2 kb HAD HBU;go_enter Tryz.func87,Tryz.ntmps87
      go_wp2_with (go_at_call 133;refine (HIN.out _ (Below.refl _ _)).mono ?_;rintro e w1 ⟨rfl,q1⟩;have HQ1:=hidden q1;clear q1)
      exact HPost.out _ ⟨_,HP.out.grow HQ1.out⟩
  · have a1:(a == 0)=false:=by simpa using a0
    by_cases b0:b=0
    · subst b0
      by_cases kA:kdP cs ps a=2
      · obtain ⟨j1,j2⟩:=jn_i (cs:=cs) (ps:=ps) (a:=a) (b:=0) d (fun q=>a0 q.1) (fun q=>q.2 kA)
        rw [j1,j2,← hqq];clear j1 j2;have HIN:Hid (Kr w 133 #[.pointer (some ⟨bp,0,none⟩),.int .i64 a] (.bool true)):=fun w' hw=>HIA.out w' true hw (by simp [kA])
        generalize BlnPost wa bp (.pointer (some ⟨g,0,none⟩)) qq (ps++[pnI d a 0])=PP at HAD ⊢;generalize (d:Int)=dd at HBU ⊢;clear P V ha hb h6 h65 HIA HIB hqq z2 kA HP;go_enter Tryz.func87,Tryz.ntmps87
        go_wp2_with (first
          |(go_at_call 133;refine (HIN.out _ (Below.refl _ _)).mono ?_;rintro e w1 ⟨rfl,q1⟩;have HQ1:=hidden q1;clear q1)
          |((with_reducible refine at_bdd 33 ?_);refine wpList_bld _ rfl _ _ rfl _ (by rw [List.map_toArray];exact HBU.out) ?_)
          |(go_at_call 129;refine (HAD.out _ HQ1.out).mono ?_;rintro e w3 ⟨rfl,hA⟩;have HA:=hidden hA;clear hA))
        exact HA.out
      · obtain ⟨j1,j2⟩:=jn_l (cs:=cs) (ps:=ps) (a:=a) (b:=0) d (fun q=>a0 q.1) ⟨rfl,kA⟩
        rw [j1,j2];clear j1 j2;have HIN:Hid (Kr w 133 #[.pointer (some ⟨bp,0,none⟩),.int .i64 a] (.bool false)):=fun w' hw=>HIA.out w' false hw (by simp [kA])
        have HPost:Hid (∀w',(∃lv',PlM wa w' bp (.pointer (some ⟨g,0,none⟩)) ps lv')→BlnPost wa bp (.pointer (some ⟨g,0,none⟩)) a ps (.returned (.int .i64 a)) w'):=fun w' q=>⟨rfl,q⟩
        generalize BlnPost wa bp (.pointer (some ⟨g,0,none⟩)) a ps=PP at HPost ⊢;generalize (d:Int)=dd at HBU ⊢;clear P V ha hb h6 h65 HIA HIB hqq z2 kA HAD HBU;go_enter Tryz.func87,Tryz.ntmps87
        go_wp2_with (go_at_call 133;refine (HIN.out _ (Below.refl _ _)).mono ?_;rintro e w1 ⟨rfl,q1⟩;have HQ1:=hidden q1;clear q1)
        exact HPost.out _ ⟨_,HP.out.grow HQ1.out⟩
    · have b1:(b == 0)=false:=by simpa using b0
      obtain ⟨j1,j2⟩:=jn_i (cs:=cs) (ps:=ps) (a:=a) (b:=b) d (fun q=>a0 q.1) (fun q=>b0 q.1);rw [j1,j2,← hqq];clear j1 j2;generalize BlnPost wa bp (.pointer (some ⟨g,0,none⟩)) qq (ps++[pnI d a b])=PP at HAD ⊢;generalize (d:Int)=dd at HBU ⊢;clear P V ha hb h6 h65 HIA HIB hqq z2 HP;go_enter Tryz.func87,Tryz.ntmps87
      go_wp2_with (first
        |((with_reducible refine at_bdd 33 ?_);refine wpList_bld _ rfl _ _ rfl _ (by rw [List.map_toArray];exact HBU.out) ?_)
        |(go_at_call 129;refine (HAD.out _ (Below.refl _ _)).mono ?_;rintro e w3 ⟨rfl,hA⟩;have HA:=hidden hA;clear hA))
      exact HA.out

end Go.Proofs.YtabiglnmfdpcfaaGreatDoor
