/- Entries appended one by one, with where they lie (moved out of Cpb5). -/
import Derived.Test.YtabiglnmfdpcfaaGreatDoorBz01
import Derived.Test.YtabiglnmfdpcfaaGreatDoorBz37
import Derived.Test.YtabiglnmfdpcfaaGreatDoorBz18
import Derived.Test.YtabiglnmfdpcfaaGreatDoorBz24
namespace Go.Proofs.YtabiglnmfdpcfaaGreatDoor
variable {S S1 fr:List Nat}
variable {base d g gs m n room:Nat}
variable {cs cs':Lz}
variable {es:List Ent}
variable {u v v' vf vf' vp vp' y:Value}
variable {w w' w1 w2 wr:World}
variable {xs:List Value}
set_option maxHeartbeats 16000000
set_option maxRecDepth 20000
open Go.RowKit

def Where (w:World) (v v':Value):Prop:=v'.ownBlock=v.ownBlock∨∃k,v'.ownBlock=some k∧w.heap.size≤k

theorem run_appP (ty:TypeId) (w:World) (base:Nat) (v:Value) (n:Nat) (xs:List Value) (hown:w.ownsRow base 62 33 v n xs) (g:Nat) (k:Lq) (u:Value)
    (hb:Blk w g 62 (encP k u).toArray) (hl:k.length=32) (h1:u.oneCell'=true) (hn:n≤4096) (hbase:base≤w.heap.size):
    ∃v' w',(Builtin.append_ #[22,22] ty #[v,.slice (some ⟨g,0,none⟩) 1 1]).run Tryz.prog w=.ok v' w'∧w'.ownsRow base 62 33 v' (n+1) (xs++encP k u)∧w.grownBy w' v.ownBlock∧Where w v v':=by
  obtain ⟨i,z,hi,hz,hsz,hby,hzs⟩:=info_pair;have hlen:(encP k u).length=1 * 33:=by rw [encP_length k u hl]
  have hnews:∀j q,(encP k u)[j]?=some q→w.cell? ((⟨g,0,none⟩:Addr).add j)=some q:=by
    intro j q hq;rw [Addr.add_lit,Nat.zero_add,hb.cell];simpa using hq
  have hone:∀q∈encP k u,q.oneCell'=true:=by
    intro q hq;unfold encP at hq;rcases List.mem_append.1 hq with hq | hq
    · obtain ⟨z,_,rfl⟩:=List.mem_map.1 hq
      rfl
    · obtain rfl:q=u:=by simpa using hq
      exact h1
  obtain ⟨v',w',hr,h2,h3,_⟩:=run_append_own (P:=Tryz.prog) w base 22 ty 62 i z 33 56 Tryz.underlying22 hi hz hsz hby hzs (by omega) v n xs hown ⟨g,0,none⟩ 1 1 (encP k u) hlen hnews hone (by simp only [maxLen];omega) (by omega) hbase;refine ⟨v',w',hr,h2,h3,?_⟩;rcases hown.2 with ⟨rfl,rfl⟩ | ⟨g0,cap,cur,rfl,hbg,hg,hnc,hcm,hcs,htake⟩
  · right
    obtain ⟨v2,w2,hr2,h4,_⟩:=run_append_own (P:=Tryz.prog) w w.heap.size 22 ty 62 i z 33 56 Tryz.underlying22 hi hz hsz hby hzs (by omega) (.slice none 0 0) 0 [] (World.ownsRow_nil _ _ _ _) ⟨g,0,none⟩ 1 1 (encP k u) hlen hnews hone (by simp only [maxLen];omega) (by omega) (Nat.le_refl _);rw [hr] at hr2;injection hr2 with e1 e2;subst e1;subst e2;rcases h4.2 with ⟨e,e2⟩ | ⟨g',cap',cur',e,hb',_⟩
    · omega
    · exact ⟨g',by rw [e];rfl,hb'⟩
  · by_cases hroom:n+1≤cap
    · left
      have hr2:=run_append_room (P:=Tryz.prog) w 22 ty 62 i Tryz.underlying22 hi g0 n cap cur hg ⟨g,0,none⟩ 1 1 (encP k u) (by rw [hsz];exact hlen) hnews hone hroom (by rw [hsz,hlen,hcs];omega);rw [hr] at hr2;injection hr2 with e1 e2;rw [e1];rfl
    · right
      have holds:∀j q,xs[j]?=some q→w.cell? ((⟨g0,0,none⟩:Addr).add j)=some q:=hown.cells (g:=g0) rfl;have hr2:=run_append_grow (P:=Tryz.prog) w 22 ty 62 i z Tryz.underlying22 hi hz ⟨g0,0,none⟩ n cap xs (by rw [hsz];exact hown.1) holds ⟨g,0,none⟩ 1 1 (encP k u) (by rw [hsz];exact hlen) hnews (by omega) (by omega) (growslice_fits (by omega) (by rw [hby];omega));rw [hr] at hr2;injection hr2 with e1 e2;exact ⟨w.heap.size,by rw [e1];rfl,Nat.le_refl _⟩

theorem step_bsp {ops:Array Oper} {op:Oper} {a:Act} {K:Act→World→Prop} {Q:Exit→Act→World→Prop} {E:Prop} (w:World) (hgd:op.guard=none) (x:Operand) (ho:op.op=.buildSlice 22 1 #[(0,x)])
    (k:Lq) (v:Value) (hx:a.eval x=.agg (encP k v).toArray) (hl:k.length=32)
    (hk:K (a.put op.dst (.slice (some ⟨w.heap.size,0,none⟩) 1 1)) (w.alloc (.cells (encP k v).toArray 62))):if Region.wanted op (yielded ops a.tmps)=true then Oper.wp Tryz.prog op a w K Q else E:=by
  have hw:Region.wanted op (yielded ops a.tmps)=true:=by simp [Region.wanted,hgd]
  rw [if_pos hw];obtain ⟨i,z,hi,hz,hs,_,hzs⟩:=info_pair;have hrun:=run_buildSlice (P:=Tryz.prog) w 22 62 1 #[(0,.agg (encP k v).toArray)] (encP k v).toArray i z Tryz.underlying22 hi hz (by rw [hs];omega) (by rw [hs];omega) (by
    rw [hs];obtain ⟨zs,hzz,hzl⟩:∃zs:List Value,(Array.range (1 * 33)).map (z.cells[· % z.cells.size]!)=zs.toArray∧zs.length=33:=⟨_,(Array.toArray_toList).symm,by simp⟩;rw [hzz];have:=fill_one (fun i=>some (i * 33,33)) 0 0 33 (.agg (encP k v).toArray) (encP k v) zs [] rfl rfl (encP_length k v hl) (by omega);rw [show (#[(0,Value.agg (encP k v).toArray)]:Array (Nat×Value)).toList=[(0,Value.agg (encP k v).toArray)] from rfl,this,Instr.fill];simp [hzl])
  unfold Oper.wp execOp;simp only [ho,List.map_toArray,List.map_cons,List.map_nil,hx,Sem.run_bind,hrun,Result.andThen_ok,Sem.run_pure];exact hk

theorem step_appP {ops:Array Oper} {o:Oper} {a:Act} {K:Act→World→Prop} {Q:Exit→Act→World→Prop} {E:Prop} (w:World) (hgd:o.guard=none) (s x:Operand)
    (hop:o.op=.call { callee:=.builtin .append,args:= #[s,x],argTypes:= #[22,22]})
    (base:Nat) (v:Value) (n:Nat) (xs:List Value) (hown:w.ownsRow base 62 33 v n xs) (hs:a.eval s=v) (g:Nat) (k:Lq) (u:Value) (hx:a.eval x=.slice (some ⟨g,0,none⟩) 1 1)
    (hb:Blk w g 62 (encP k u).toArray) (hl:k.length=32) (h1:u.oneCell'=true) (hn:n≤4096) (hbase:base≤w.heap.size)
    (hk:∀v' w',w'.ownsRow base 62 33 v' (n+1) (xs++encP k u)→w.grownBy w' v.ownBlock→Where w v v'→K (a.put o.dst v') w'):if Region.wanted o (yielded ops a.tmps)=true then Oper.wp Tryz.prog o a w K Q else E:=by
  have hw:Region.wanted o (yielded ops a.tmps)=true:=by simp [Region.wanted,hgd]
  rw [if_pos hw];obtain ⟨v',w',hr,h2,h3,h4⟩:=run_appP o.type w base v n xs hown g k u hb hl h1 hn hbase;unfold Oper.wp execOp;simp only [hop,resolve,invoke,builtin,Sem.run_bind,Sem.run_pure,Result.andThen_ok,List.map_toArray,List.map_cons,List.map_nil,hs,hx,hr];exact hk v' w' h2 h3 h4

end Go.Proofs.YtabiglnmfdpcfaaGreatDoor

namespace Go.Proofs.YtabiglnmfdpcfaaGreatDoor
variable {S S1 fr:List Nat}
variable {base d g gs m n room:Nat}
variable {cs cs':Lz}
variable {es:List Ent}
variable {u v v' vf vf' vp vp' y:Value}
variable {w w' w1 w2 wr:World}
variable {xs:List Value}
set_option maxHeartbeats 16000000
set_option maxRecDepth 20000
open Go.RowKit

theorem Blk.keptO {t:TypeId} {cs:Array Value} {row:Option Nat} (h:Blk w g t cs) (hg:w.grownBy w' row) (hne:some g≠row):Blk w' g t cs:=h.of_block (hg.block g h.lt hne)

end Go.Proofs.YtabiglnmfdpcfaaGreatDoor

namespace Go.Proofs.YtabiglnmfdpcfaaGreatDoor
variable {S S1 fr:List Nat}
variable {base d g gs m n room:Nat}
variable {cs cs':Lz}
variable {es:List Ent}
variable {u v v' vf vf' vp vp' y:Value}
variable {w w' w1 w2 wr:World}
variable {xs:List Value}
set_option maxHeartbeats 16000000
set_option maxRecDepth 20000
open Go.RowKit

theorem sides_zero:∀w,(zeroValue 72).run Tryz.prog w=.ok (.agg #[.slice none 0 0,.slice none 0 0]) w:=zero_of_info (n:=2) (by kernel_rfl) |>.1

theorem sd0 {t:TypeId} {x:Value} (h:Blk w g t #[x,y]):w.cell? ⟨g,0,none⟩=some x:=by rw [h.cell];rfl
theorem sd1 {t:TypeId} {x:Value} (h:Blk w g t #[x,y]):w.cell? ⟨g,1,none⟩=some y:=by rw [h.cell];rfl
theorem sd0_set {t:TypeId} {x:Value} (h:Blk w g t #[x,y]) (x':Value):Blk (w.setCell ⟨g,0,none⟩ x') g t #[x',y]:=h.set 0 x'
theorem sd1_set {t:TypeId} {x:Value} (h:Blk w g t #[x,y]) (y':Value):Blk (w.setCell ⟨g,1,none⟩ y') g t #[x,y']:=h.set 1 y'
theorem ownS_ne {cs:Array Value} (h:w.ownsRow base 62 33 v n xs) (hb:Blk w g 72 cs):v.ownBlock≠some g:=by
  rcases h.2 with ⟨rfl,_⟩ | ⟨g',cap,cur,rfl,_,hg,_⟩
  · simp [Value.ownBlock]
  · intro e
    obtain rfl:g'=g:=by simpa [Value.ownBlock] using e
    have hb':w.heap[g']?=some (.cells cs 72 (0,0)):=hb;rw [hb'] at hg;injection hg with hg;injection hg with _ ht;exact absurd ht (by decide)
def Aprt (u v:Value):Prop:=∀q,u.ownBlock=some q→v.ownBlock≠some q
theorem Aprt.symm (h:Aprt u v):Aprt v u:=fun q hv hu=>h q hu hv
theorem Aprt.step {u':Value} (h:Aprt u v) (hv:w.ownsRow base 62 33 v m xs) (hw:Where w u u'):Aprt u' v:=by
  intro q hq;rcases hw with e | ⟨k,e,hk⟩
  · exact h q (by rw [← e];exact hq)
  · intro e2
    rw [e] at hq;injection hq with hq;have:=(hv.lt q e2).2;omega
theorem Aprt.ne (h:Aprt u v):v.ownBlock=none∨v.ownBlock≠u.ownBlock:=by
  cases hv:v.ownBlock with
  | none=>exact .inl rfl
  | some q=>exact .inr fun e=>h q e.symm hv

end Go.Proofs.YtabiglnmfdpcfaaGreatDoor

namespace Go.Proofs.YtabiglnmfdpcfaaGreatDoor
variable {S S1 fr:List Nat}
variable {base d g gs m n room:Nat}
variable {cs cs':Lz}
variable {es:List Ent}
variable {u v v' vf vf' vp vp' y:Value}
variable {w w' w1 w2 wr:World}
variable {xs:List Value}
set_option maxHeartbeats 16000000
set_option maxRecDepth 20000
open Go.RowKit

def BdPost (w:World) (g gs:Nat) (S:List Nat) (room:Nat) (cs:Lz) (es:List Ent) (d:Nat) (e:Ending) (w':World):Prop:=
  ∃(h:Nat) (cs':Lz),e=.returned (.tuple #[.int .i64 (h:Int),.bool true])∧Bd cs es d h cs'∧STurn w g gs S room cs' [] w'

structure BdPre (w:World) (g gs:Nat) (vp vf:Value) (room:Nat) (cs:Lz) (v:Value) (V:Nat→Value) (es:List Ent) (d:Nat):Prop where
  st:Stm w g gs vp vf room cs []
  wf:Wf cs []
  laid:Kq (stB g gs vp vf cs) w Laid
  prs:Kq (stB g gs vp vf cs) w (fun w'=>PrAt w' v V es)
  n12:es.length≤12
  apart:Apart1 es
  len:∀e∈es,e.2.length≤1024
  same:∀x∈es,∀y∈es,∀j,j<d→kb x.1 j=kb y.1 j
  room:cs.length+es.length * (257-d)≤room

theorem sturn_drew (h:STurn w.drew g gs S room cs fr w'):STurn w g gs S room cs fr w':=by
  obtain ⟨vp,vf,h1,h2,h3⟩:=h;exact ⟨vp,vf,h1,(Mod.drew _ _).trans' h2,h3⟩

theorem build_few {V:Nat→Value} (p:BdPre w g gs vp vf room cs v V es d) (hd:d≤256) (hn:es.length≤1):
    Kc 8 #[.pointer (some ⟨g,0,none⟩),v,.int .i64 (d:Int)] w (BdPost w g gs (stB g gs vp vf cs) room cs es d):=by
  match es,p,hn with
  | [],p,_=>
    obtain ⟨a,cap,rfl,_⟩:=p.prs.now;have HP:Hid (BdPost w g gs (stB g gs vp vf cs) room cs [] d (.returned (.tuple #[.int .i64 0,.bool true])) w):=⟨0,cs,rfl,Bd.nil p.wf d,STurn.refl (Below.refl _ _) p.st⟩;generalize BdPost w g gs (stB g gs vp vf cs) room cs [] d=P at HP ⊢;rw [show ([]:List Ent).length=0 from rfl];clear p;go_enter Tryz.func8,Tryz.ntmps8
    go_wp2
    exact HP.out
  | [e],p,_=>
    have hfu: ¬Full room cs []:=fun q=>by
      have h1:=q.2;have h2:=p.room;simp at h2;omega
    have hky:Key e.1:=p.prs.now.keys e (by simp);have hrd:∀w',Mod (stB g gs vp vf cs) w w'→Reads w' (V 0) e.2:=fun w' m=>by
      obtain ⟨_,_,_,_,_,h⟩:=p.prs w' m;exact (h 0 (by simp)).2
    obtain ⟨a,cap,hv,hcap,hc,_⟩:=p.prs.now;subst hv;obtain ⟨b,off,ha,hr0⟩:=hc (by simp);subst ha;have HRG:Hid (∀w',Mod (stB g gs vp vf cs) w w'→w'.rangeAt b off (encP e.1 (V 0))):=fun w' m=>by
      obtain ⟨a',cap',e1,_,h,_⟩:=p.prs w' m;obtain ⟨b',off',e2,h⟩:=h (by simp);injection e1 with e3 e4 e5;rw [e2] at e3;injection e3 with e3;injection e3 with e6 e7;subst e6 e7;have:=h 0 (by simp);simpa using this
    have HLF:=hidden (leafS_ok (p.st.grow (below_drewN (Below.refl _ _) 1)) e.1 (V 0) e.2 (hrd _ (Mod.drew _ _)) hky (p.laid _ (Mod.drew _ _)) (p.len e (by simp)) hfu);have HPost:Hid (∀v' w',CeOk (lfC (lfD e.1 (vaD e.2)) e.1 v' e.2)→STurn w.drew g gs (stB g gs vp vf cs) room (tkC cs [] (1,lfC (lfD e.1 (vaD e.2)) e.1 v' e.2)) [] w'→BdPost w g gs (stB g gs vp vf cs) room cs [e] d (.returned (.tuple #[.int .i64 (tkH cs []:Int),.bool true])) w'):=fun v' w' ok t=>by
      have hb:Bytes e.2:=by obtain ⟨_,_,_,_,_,h,_⟩:=hrd w (Mod.refl _ _);exact h
      exact ⟨cs.length+1,_,rfl,Bd.one p.wf d hd e v' (p.len e (by simp)) hb ok,sturn_drew t⟩
    generalize BdPost w g gs (stB g gs vp vf cs) room cs [e] d=P at HPost ⊢;have HPL:=hidden (pth_ln e.1 hky.1);have HKL:=hidden hky.1;obtain ⟨ua,uc,huv,_⟩:=hrd w (Mod.refl _ _);rw [huv] at HRG HLF;obtain ⟨u,hu⟩:∃u,u=Value.slice ua e.2.length uc:=⟨_,rfl⟩;rw [← hu] at HRG HLF;obtain ⟨K,bs⟩:=e;rw [show [((K,bs):Ent)].length=1 from rfl];simp only at HRG HLF HPL HKL HPost;generalize (tkH cs []:Int)=th at HLF HPost;generalize hdd:(d:Int)=dd;clear p hfu hky hrd hc hr0 hcap huv hu hdd hn;go_enter Tryz.func8,Tryz.ntmps8
    go_wp2_with fail
    refine wp_region_held_drew (S:=fun w'=>w'.rangeAt b off (encP K u)) (by kernel_rfl) (HRG.out _ (Mod.drew _ _)) (fun hHeld=>?_);refine tkp 0 (.pointer (some ⟨g,0,none⟩)) hHeld ?_;simp only [Act.put,zq1,zq2,zq4,zq5,zq6];refine tkp 1 (.slice (some ⟨b,off,none⟩) 1 cap) hHeld ?_;simp only [Act.put,zq1,zq2,zq3,zq4,zq5,zq6];refine tkp 2 (.pointer (some ⟨b,off,none⟩)) hHeld ?_;simp only [Act.put,zq1,zq2,zq3,zq4,zq5,zq6];refine tkp 3 (.pointer (some ⟨b,off,none⟩)) hHeld ?_;simp only [Act.put,zq1,zq2,zq3,zq4,zq5,zq6];refine tkg 4 (.agg (B K)) rfl (yieldsIf_load_mid rfl 34 (.tmp 33) rfl b off rfl (B K).toList _ (fun w hS=>rng_key hS) Tryz.underlying34 rfl HPL.out) hHeld ?_;simp only [Act.put,zq1,zq2,zq3,zq4,zq5,zq6];refine tkp 5 (.slice (some ⟨b,off,none⟩) 1 cap) hHeld ?_;simp only [Act.put,zq1,zq2,zq3,zq4,zq5,zq6];refine tkp 6 (.pointer (some ⟨b,off,none⟩)) hHeld ?_;simp only [Act.put,zq1,zq2,zq3,zq4,zq5,zq6];refine tkp 7 (.pointer (some ⟨b,off+32,none⟩)) hHeld ?_;simp only [Act.put,zq1,zq2,zq3,zq4,zq5,zq6];refine tkg 8 (u) rfl (Or.inl ⟨by rfl,fun w hS=>by (have q1:=rng_val hS HKL.out;go_simp)⟩) hHeld ?_;simp only [Act.put,zq1,zq2,zq3,zq4,zq5,zq6];refine wpAnyH_ready (rs:=[9]) (by kernel_rfl) (by simp) ?_;refine AllReadyH.cons rfl (fun KQ hK=>?_) AllReadyH.nil;go_simp;refine HLF.out.mono ?_;rintro e z1 ⟨v',rfl,ok,t⟩;have HT:=hidden t;have HOK:=hidden ok;have HM1:Hid (Mod (stB g gs vp vf cs) w z1):=(Mod.drew _ _).trans' (by obtain ⟨_,_,_,m,_⟩:=t;exact m);clear t ok;refine hK.out _ _ (HRG.out _ HM1.out) (fun hHeld=>?_);clear hK KQ;refine tkp 10 (.tuple #[.int .i64 th,.int .i64 0]) hHeld ?_;simp only [Act.put,zq1,zq2,zq3,zq4,zq5,zq6];refine tkp 11 (.int .i64 th) hHeld ?_;simp only [Act.put,zq1,zq2,zq3,zq4,zq5,zq6];refine tkp 12 (.int .i64 0) hHeld ?_;simp only [Act.put,zq1,zq2,zq3,zq4,zq5,zq6];refine tkp 13 (.int .i64 th) hHeld ?_;simp only [Act.put,zq1,zq2,zq3,zq4,zq5,zq6];refine tkp 14 (.int .i64 0) hHeld ?_;simp only [Act.put,zq1,zq2,zq3,zq4,zq5,zq6];refine wpAnyH_done (by kernel_rfl) ?_ _;clear hHeld
    go_wp2_with fail
    exact HPost.out _ _ HOK.out HT.out
  | _::_::_,_,hn=>simp at hn

theorem sturn_then (A:Mod S w w1) (N:New S w S1) (t:STurn w1 g gs S1 room cs fr w2):STurn w g gs S room cs fr w2:=by
  obtain ⟨vp,vf,h1,h2,h3⟩:=t;exact ⟨vp,vf,h1,A.trans N h2,N.trans A.size h3⟩

theorem BdPre.sub {V V':Nat→Value} (p:BdPre w g gs vp vf room cs v V es d) (hd:d<256) (bit:Int) (st:Stm w' g gs vp' vf' room cs' []) (wf:Wf cs' []) (laid:Kq (stB g gs vp' vf' cs') w' Laid) (prs:Kq (stB g gs vp' vf' cs') w' (fun w''=>PrAt w'' v' V' (sideOf es d bit))) (hr:cs'.length+(sideOf es d bit).length * (256-d)≤room):BdPre w' g gs vp' vf' room cs' v' V' (sideOf es d bit) (d+1):=by
  refine ⟨st,wf,laid,prs,Nat.le_trans (List.length_filter_le _ _) p.n12,p.apart.side d bit,fun e he=>p.len e (List.mem_filter.1 he).1,fun x hx y hy j hj=>?_,by rw [show 257-(d+1)=256-d by omega];exact hr⟩;have bx:∀e∈sideOf es d bit,kb e.1 d=bit:=fun e he=>by
    have:=(List.mem_filter.1 he).2;rw [kbi_in _ _ hd] at this;simpa using this
  by_cases q:j=d
  · rw [q,bx x hx,bx y hy]
  · exact p.same x (List.mem_filter.1 hx).1 y (List.mem_filter.1 hy).1 j (by omega)

theorem side_prs {V:Nat→Value} {fs:List Ent} {its:List (Ent×Value)} {s:Value} (hS:∀k∈S,k<w.heap.size) (prs:Kq S w (fun w'=>PrAt w' v V es)) (hb:Kb w wr) (hl:its.length=m) (hm:its.map (·.1)=fs) (hv:∀p∈its,∃i,i<es.length∧p=(es.getD i e00,V i)) (ho:wr.ownsRow w.heap.size 62 33 s m (flatP its)):Kq S wr (fun w'=>PrAt w' s (fun i=>(its.getD i (e00,undef)).2) fs):=fun w' mm=>by
  have hp:=prs w' ((Mod.of_below hb S).trans' mm);obtain ⟨_,_,_,_,_,hr⟩:=hp;have ho':w'.ownsRow w.heap.size 62 33 s its.length (flatP its):=by
    rw [hl];refine owR_mod ho mm (fun g hg e=>?_);have:=(ho.lt g hg).1;have:=hS g e;omega
  have:=prAt_own ho' (fun p hp=>by
    obtain ⟨i,hi,rfl⟩:=hv p hp;exact (hr i hi).1) (fun p hp=>by
    obtain ⟨i,hi,rfl⟩:=hv p hp;exact (hr i hi).2)
  rwa [hm] at this

set_option maxRecDepth 100000 in
theorem build_more {V:Nat→Value} (p:BdPre w g gs vp vf room cs v V es d) (hd:d<256) (hn:2≤es.length)
    (IH:∀(w:World) (vp vf:Value) (cs:Lz) (v:Value) (V:Nat→Value) (es:List Ent),BdPre w g gs vp vf room cs v V es (d+1)→Kc 8 #[.pointer (some ⟨g,0,none⟩),v,.int .i64 ((d+1:Nat):Int)] w (BdPost w g gs (stB g gs vp vf cs) room cs es (d+1))):
    Kc 8 #[.pointer (some ⟨g,0,none⟩),v,.int .i64 (d:Int)] w (BdPost w g gs (stB g gs vp vf cs) room cs es d):=by
  have HP:=hidden p;have HIH:=hidden IH;have H12:=hidden p.n12;obtain ⟨a,cap,hv,hcap,hc,hr⟩:=p.prs.now;subst hv;obtain ⟨b,off,ha,hr0⟩:=hc (by omega);subst ha;have HC:=hidden hr0;have HR:=hidden hr;obtain ⟨n,hnn⟩:∃n,n=es.length:=⟨_,rfl⟩;have HN:=hidden hnn;rw [← hnn] at hn ⊢;have hn12:n≤12:=by rw [hnn];exact p.n12
  have HIHd:Hid (∀(w:World) (vp vf:Value) (cs:Lz) (v:Value) (V:Nat→Value) (es:List Ent),BdPre w g gs vp vf room cs v V es (d+1)→Kc 8 #[.pointer (some ⟨g,0,none⟩),v,.int .i64 ((d:Int)+1)] w (BdPost w g gs (stB g gs vp vf cs) room cs es (d+1))):=IH;have HPB:Hid (∀e w',BdPost w g gs (stB g gs vp vf cs) room cs es d e w'↔BdPost w g gs (stB g gs vp vf cs) room cs es d e w'):=fun _ _=>Iff.rfl
  have z0: ¬(n:Int)=0:=by omega
  have z1: ¬(n:Int)=1:=by omega
  have z2: ¬(255:Int)<(d:Int):=by omega
  obtain ⟨fP,hfP⟩:=u_pair;have HUPa:=hidden hfP;clear hc hr0 hr hcap hnn IH HIH hfP;go_enter Tryz.func8,Tryz.ntmps8
  go_wp2_with (first
    |((with_reducible refine at_ald 10 ?_);refine wpList_al _ rfl _ rfl _ sides_zero ?_;intro w1 g10 hg10 hl10 B10 b10;have HG10:=hidden hg10;have HB10:=hidden B10;have HBL10:=hidden b10;clear hg10 hl10 B10 b10))
  go_loopw [11] (fun i wr=>∃(k m0 m1:Nat) (it0 it1:List (Ent×Value)) (a0 a1:Option Addr) (c0 c1:Nat),k≤n∧m0≤12∧m1≤12∧i=.int .i64 k∧Hid (it0.length=m0∧it1.length=m1)∧Hid (it0.map (·.1)=sideOf (es.take k) d 0∧it1.map (·.1)=sideOf (es.take k) d 1)∧Hid (∀p,p∈it0∨p∈it1→∃i,i<es.length∧p=(es.getD i e00,V i))∧Hid (wr.ownsRow w.heap.size 62 33 (.slice a0 m0 c0) m0 (flatP it0))∧Hid (wr.ownsRow w.heap.size 62 33 (.slice a1 m1 c1) m1 (flatP it1))∧Hid (Aprt (.slice a0 m0 c0) (.slice a1 m1 c1))∧Hid (Blk wr g10 72 #[.slice a0 m0 c0,.slice a1 m1 c1])∧Hid (Kb w wr)) (fun i _=>n-(intOf i).toNat)
  case atStart=>exact ⟨0,0,0,[],[],none,none,0,0,by omega,by omega,by omega,rfl,⟨rfl,rfl⟩,⟨rfl,rfl⟩,fun p hp=>by simp at hp,World.ownsRow_nil _ _ _ _,World.ownsRow_nil _ _ _ _,fun q hq=>by simp [Value.ownBlock] at hq,HB10,HBL10⟩
  case round=>
    obtain ⟨k,m0,m1,it0,it1,a0,a1,c0,c1,hk,hm0,hm1,rfl,hlen2,hmaps,hvals,ho0,ho1,hap,hblk,hbw⟩:=hrel
    by_cases hlt:k<n
    · have hlt':k<es.length:=by rw [← HN.out];exact hlt
      have y1:(k:Int)<(n:Int):=by omega
      have y0:(0:Int)≤(k:Int):=by omega
      obtain ⟨hkey,hrd⟩:=HR.out k hlt';have HCC:Hid (∀w',Kb w w'→w'.rangeAt b (off+k * 33) (encP (es.getD k e00).1 (V k))):=fun w' hw'=>rng_grow (HC.out k hlt') hw'
      have HBit:Hid (∀w',Kc 31 #[.agg (B (es.getD k e00).1),.int .i64 (d:Int)] w' fun e w''=>e=.returned (.int .i64 (kbi (es.getD k e00).1 d))∧Below w'.heap.size w' w''):=fun w'=>bit_any _ (d:Int) w' hkey
      have hst0:=side_step es k d 0 hlt';have hst1:=side_step es k d 1 hlt';have HU1:=hidden (reads_one hrd);have HKY:=hidden hkey;have HKN:=hidden hlt';have HSZ:Hid ((Tryz.prog.info? 62).map (·.size)=some (encP (es.getD k e00).1 (V k)).length):=by show _=_;rw [encP_length _ _ hkey.1];exact size_pair
      obtain ⟨E,hE⟩:∃E,E=es.getD k e00:=⟨_,rfl⟩;obtain ⟨u,hu⟩:∃u,u=V k:=⟨_,rfl⟩;have HEU:Hid (E=es.getD k e00∧u=V k):=⟨hE,hu⟩;rw [← hE] at HCC HBit hst0 hst1 HKY HSZ;rw [← hu] at HCC HU1 HSZ;have hb2:kbi E.1 d=0∨kbi E.1 d=1:=by rw [kbi_in _ _ hd];exact kb_two _ _
      generalize kbi E.1 d=β at HBit hst0 hst1 hb2;clear hkey hrd hlt' hE hu;rcases hb2 with rfl | rfl
      · as_aux_lemma=>
          have hand:bits .and .i64 0 1=0:=by rfl
          rw [if_pos (by rfl)] at hst0;rw [if_neg (by simp),List.append_nil] at hst1;have HLN:Hid ((it0++[(E,u)]).length=m0+1∧(it1).length=m1):=by
            obtain ⟨q1,q2⟩:=hlen2.out;exact ⟨by simp [q1],by simp [q2]⟩
          have HMP:Hid ((it0++[(E,u)]).map (·.1)=sideOf (es.take (k+1)) d 0∧(it1).map (·.1)=sideOf (es.take (k+1)) d 1):=by
            obtain ⟨q1,q2⟩:=hmaps.out;rw [hst0,hst1];exact ⟨by simp [q1],by simp [q2]⟩
          have HL2:Hid (m0+1≤12∧m1≤12):=by
            obtain ⟨q1,q2⟩:=HLN.out;obtain ⟨q3,q4⟩:=HMP.out;have h3:=congrArg List.length q3;have h4:=congrArg List.length q4;have h5:=List.length_filter_le (fun e:Ent=>kbi e.1 d == 0) (es.take (k+1));have h6:=List.length_filter_le (fun e:Ent=>kbi e.1 d == 1) (es.take (k+1));rw [List.length_map,q1] at h3;rw [List.length_map,q2] at h4;unfold sideOf at h3 h4;rw [List.length_take] at h5 h6;have:=H12.out;constructor <;> omega
          have HVL:Hid (∀p,p∈it0++[(E,u)]∨p∈it1→∃i,i<es.length∧p=(es.getD i e00,V i)):=by
            intro p hp;have hx:p∈it0∨p∈it1∨p=(E,u):=by
              rcases hp with hp | hp
              · rcases List.mem_append.1 hp with hp | hp;exact .inl hp;exact .inr (.inr (by simpa using hp))
              · exact .inr (.inl hp)
            rcases hx with hx | hx | hx
            · exact hvals.out p (.inl hx)
            · exact hvals.out p (.inr hx)
            · exact ⟨k,HKN.out,by rw [hx,← HEU.out.1,← HEU.out.2]⟩
          clear hst0 hst1
          go_wp2_with (first
            |((with_reducible refine at_ldd 55 54 ?_);refine wpList_ldk _ rfl _ rfl b (off+k * 33) E.1 rfl (rng_key (HCC.out _ hbw.out)) HKY.out.1 ?_)
            |(go_at_call 31;refine (HBit.out _).mono ?_;rintro e x1 ⟨rfl,q1⟩))
          have d0:Kb wr x1.drew:=grow_trans q1 (Below.refl _ _).drew;have HS:Hid (∀w',Kb wr w'→Blk w' g10 72 #[.slice a0 m0 c0,.slice a1 m1 c1]∧w'.rangeAt b (off+k * 33) (encP E.1 u)):=fun w' q=>⟨hblk.out.grow q,HCC.out _ (grow_trans hbw.out q)⟩
          refine wp_region_last (S:=fun w'=>Blk w' g10 72 #[.slice a0 m0 c0,.slice a1 m1 c1]∧w'.rangeAt b (off+k * 33) (encP E.1 u)) 11 (by kernel_rfl) (HS.out _ d0) (fun hHeld=>?_);refine tlp 0 (.int .i64 0) hHeld ?_;simp only [Act.put,zq1,zq2,zq4,zq5,zq6];refine tlp 1 (.int .i64 0) hHeld ?_;simp only [Act.put,zq1,zq2,zq3,zq4,zq5,zq6];refine tlp 2 (.pointer (some ⟨g10,0,none⟩)) hHeld ?_;simp only [Act.put,zq1,zq2,zq3,zq4,zq5,zq6];refine tlg 3 (.slice a0 m0 c0) rfl (Or.inl ⟨by rfl,fun w hS=>by (have s1:=sd0 hS.1;go_simp)⟩) hHeld ?_;simp only [Act.put,zq1,zq2,zq3,zq4,zq5,zq6];refine tlp 4 (.slice (some ⟨b,off,none⟩) n cap) hHeld ?_;simp only [Act.put,zq1,zq2,zq3,zq4,zq5,zq6];refine tlp 5 (.int .i64 k) hHeld ?_;simp only [Act.put,zq1,zq2,zq3,zq4,zq5,zq6];refine tlp 6 (.pointer (some ⟨b,off+k * 33,none⟩)) hHeld ?_;simp only [Act.put,zq1,zq2,zq3,zq4,zq5,zq6];refine tlg 7 (.agg (encP E.1 u).toArray) rfl (yieldsIf_load_mid rfl 62 (.tmp 65) rfl b (off+k * 33) rfl (encP E.1 u) _ (fun w hS=>hS.2) HUPa.out rfl HSZ.out) hHeld ?_;simp only [Act.put,zq1,zq2,zq3,zq4,zq5,zq6];refine wpAnyL_one (i:=8) rfl (by kernel_rfl) (fun KQ hK=>?_);have oA:=(ownsP_below ho0.out d0).alloc (.cells (encP E.1 u).toArray 62);have pA:=(ownsP_below ho1.out d0).alloc (.cells (encP E.1 u).toArray 62);have dA:=grow_trans d0 (grow_alloc x1.drew (.cells (encP E.1 u).toArray 62));refine step_bsp _ rfl _ rfl E.1 u rfl HKY.out.1 ?_;refine hK.out _ _ (HS.out _ dA) (fun hHeld=>?_);clear hK KQ;refine wpAnyL_one (i:=9) rfl (by kernel_rfl) (fun KQ hK=>?_);refine step_appP _ rfl _ _ rfl w.heap.size _ m0 (flatP it0) oA rfl x1.drew.heap.size E.1 u rfl (Blk.new _ _ _) HKY.out.1 HU1.out (by omega) (Nat.le_trans (grow_trans hbw.out dA).size (Nat.le_refl _)) ?_;intro v5 x5 ho5 hg5 hwh5;have hb5:=below_own (grow_trans hbw.out dA) oA (Nat.le_refl _) hg5;have hS5:=(HS.out _ dA).1.keptO hg5 (Ne.symm (ownS_ne oA (HS.out _ dA).1));refine hK.out _ _ (⟨hS5,HCC.out _ hb5⟩) (fun hHeld=>?_);clear hK KQ;refine tlp 10 (.pointer (some ⟨g10,0,none⟩)) hHeld ?_;simp only [Act.put,zq1,zq2,zq3,zq4,zq5,zq6];have hcell:=sd0 hS5;have hfr:=hS5.frozen 0;obtain ⟨a5,c5,rfl⟩:∃a5 c5,v5=.slice a5 (m0+1) c5:=by
            rcases ho5.2 with ⟨e,e2⟩ | ⟨g',cap',cur,e,_⟩
            · omega
            · exact ⟨_,_,e⟩
          refine wpAnyL_last rfl (by kernel_rfl) (by kernel_rfl) (fun KQ hK=>?_);go_simp
          
          refine hK.out _ _ ?_;clear hK KQ;have hap5:=Aprt.step hap.out pA hwh5;have po5:=pA.kept hg5 (Aprt.ne hap.out);have gr6:=grown_setCell x5 g10 0 (.slice a5 (m0+1) c5);have hS6:=sd0_set hS5 (.slice a5 (m0+1) c5);have ho6:=ho5.kept gr6 (.inr (ownS_ne ho5 hS5));have po6:=po5.kept gr6 (.inr (ownS_ne po5 hS5));have hb6:=below_row hb5 gr6 HG10.out;rw [← flatP_snoc it0 (E,u)] at ho6;have HF6:=hidden (And.intro ho6 (And.intro po6 (And.intro hap5 (And.intro hS6 hb6))));generalize x5.setCell ⟨g10,0,none⟩ (.slice a5 (m0+1) c5)=x6 at *;clear hap5 po5 gr6 hS6 ho6 po6 hb6 hS5 hb5 ho5 hg5 hwh5 oA pA dA hHeld HS hcell hfr
          go_wp2_with fail
          exact ⟨⟨k+1,m0+1,m1,it0++[(E,u)],it1,a5,a1,c5,c1,by omega,HL2.out.1,HL2.out.2,by go_num,HLN,HMP,HVL,HF6.out.1,HF6.out.2.1,HF6.out.2.2.1,HF6.out.2.2.2.1,HF6.out.2.2.2.2⟩,by simp [intOf];omega⟩
      · as_aux_lemma=>
          have hand:bits .and .i64 1 1=1:=by rfl
          rw [if_neg (by simp),List.append_nil] at hst0;rw [if_pos (by rfl)] at hst1;have HLN:Hid ((it0).length=m0∧(it1++[(E,u)]).length=m1+1):=by
            obtain ⟨q1,q2⟩:=hlen2.out;exact ⟨by simp [q1],by simp [q2]⟩
          have HMP:Hid ((it0).map (·.1)=sideOf (es.take (k+1)) d 0∧(it1++[(E,u)]).map (·.1)=sideOf (es.take (k+1)) d 1):=by
            obtain ⟨q1,q2⟩:=hmaps.out;rw [hst0,hst1];exact ⟨by simp [q1],by simp [q2]⟩
          have HL2:Hid (m0≤12∧m1+1≤12):=by
            obtain ⟨q1,q2⟩:=HLN.out;obtain ⟨q3,q4⟩:=HMP.out;have h3:=congrArg List.length q3;have h4:=congrArg List.length q4;have h5:=List.length_filter_le (fun e:Ent=>kbi e.1 d == 0) (es.take (k+1));have h6:=List.length_filter_le (fun e:Ent=>kbi e.1 d == 1) (es.take (k+1));rw [List.length_map,q1] at h3;rw [List.length_map,q2] at h4;unfold sideOf at h3 h4;rw [List.length_take] at h5 h6;have:=H12.out;constructor <;> omega
          have HVL:Hid (∀p,p∈it0∨p∈it1++[(E,u)]→∃i,i<es.length∧p=(es.getD i e00,V i)):=by
            intro p hp;have hx:p∈it0∨p∈it1∨p=(E,u):=by
              rcases hp with hp | hp
              · exact .inl hp
              · rcases List.mem_append.1 hp with hp | hp;exact .inr (.inl hp);exact .inr (.inr (by simpa using hp))
            rcases hx with hx | hx | hx
            · exact hvals.out p (.inl hx)
            · exact hvals.out p (.inr hx)
            · exact ⟨k,HKN.out,by rw [hx,← HEU.out.1,← HEU.out.2]⟩
          clear hst0 hst1
          go_wp2_with (first
            |((with_reducible refine at_ldd 55 54 ?_);refine wpList_ldk _ rfl _ rfl b (off+k * 33) E.1 rfl (rng_key (HCC.out _ hbw.out)) HKY.out.1 ?_)
            |(go_at_call 31;refine (HBit.out _).mono ?_;rintro e x1 ⟨rfl,q1⟩))
          have d0:Kb wr x1.drew:=grow_trans q1 (Below.refl _ _).drew;have HS:Hid (∀w',Kb wr w'→Blk w' g10 72 #[.slice a0 m0 c0,.slice a1 m1 c1]∧w'.rangeAt b (off+k * 33) (encP E.1 u)):=fun w' q=>⟨hblk.out.grow q,HCC.out _ (grow_trans hbw.out q)⟩
          refine wp_region_last (S:=fun w'=>Blk w' g10 72 #[.slice a0 m0 c0,.slice a1 m1 c1]∧w'.rangeAt b (off+k * 33) (encP E.1 u)) 11 (by kernel_rfl) (HS.out _ d0) (fun hHeld=>?_);refine tlp 0 (.int .i64 1) hHeld ?_;simp only [Act.put,zq1,zq2,zq4,zq5,zq6];refine tlp 1 (.int .i64 1) hHeld ?_;simp only [Act.put,zq1,zq2,zq3,zq4,zq5,zq6];refine tlp 2 (.pointer (some ⟨g10,1,none⟩)) hHeld ?_;simp only [Act.put,zq1,zq2,zq3,zq4,zq5,zq6];refine tlg 3 (.slice a1 m1 c1) rfl (Or.inl ⟨by rfl,fun w hS=>by (have s1:=sd1 hS.1;go_simp)⟩) hHeld ?_;simp only [Act.put,zq1,zq2,zq3,zq4,zq5,zq6];refine tlp 4 (.slice (some ⟨b,off,none⟩) n cap) hHeld ?_;simp only [Act.put,zq1,zq2,zq3,zq4,zq5,zq6];refine tlp 5 (.int .i64 k) hHeld ?_;simp only [Act.put,zq1,zq2,zq3,zq4,zq5,zq6];refine tlp 6 (.pointer (some ⟨b,off+k * 33,none⟩)) hHeld ?_;simp only [Act.put,zq1,zq2,zq3,zq4,zq5,zq6];refine tlg 7 (.agg (encP E.1 u).toArray) rfl (yieldsIf_load_mid rfl 62 (.tmp 65) rfl b (off+k * 33) rfl (encP E.1 u) _ (fun w hS=>hS.2) HUPa.out rfl HSZ.out) hHeld ?_;simp only [Act.put,zq1,zq2,zq3,zq4,zq5,zq6];refine wpAnyL_one (i:=8) rfl (by kernel_rfl) (fun KQ hK=>?_);have oA:=(ownsP_below ho1.out d0).alloc (.cells (encP E.1 u).toArray 62);have pA:=(ownsP_below ho0.out d0).alloc (.cells (encP E.1 u).toArray 62);have dA:=grow_trans d0 (grow_alloc x1.drew (.cells (encP E.1 u).toArray 62));refine step_bsp _ rfl _ rfl E.1 u rfl HKY.out.1 ?_;refine hK.out _ _ (HS.out _ dA) (fun hHeld=>?_);clear hK KQ;refine wpAnyL_one (i:=9) rfl (by kernel_rfl) (fun KQ hK=>?_);refine step_appP _ rfl _ _ rfl w.heap.size _ m1 (flatP it1) oA rfl x1.drew.heap.size E.1 u rfl (Blk.new _ _ _) HKY.out.1 HU1.out (by omega) (Nat.le_trans (grow_trans hbw.out dA).size (Nat.le_refl _)) ?_;intro v5 x5 ho5 hg5 hwh5;have hb5:=below_own (grow_trans hbw.out dA) oA (Nat.le_refl _) hg5;have hS5:=(HS.out _ dA).1.keptO hg5 (Ne.symm (ownS_ne oA (HS.out _ dA).1));refine hK.out _ _ (⟨hS5,HCC.out _ hb5⟩) (fun hHeld=>?_);clear hK KQ;refine tlp 10 (.pointer (some ⟨g10,1,none⟩)) hHeld ?_;simp only [Act.put,zq1,zq2,zq3,zq4,zq5,zq6];have hcell:=sd1 hS5;have hfr:=hS5.frozen 1;obtain ⟨a5,c5,rfl⟩:∃a5 c5,v5=.slice a5 (m1+1) c5:=by
            rcases ho5.2 with ⟨e,e2⟩ | ⟨g',cap',cur,e,_⟩
            · omega
            · exact ⟨_,_,e⟩
          refine wpAnyL_last rfl (by kernel_rfl) (by kernel_rfl) (fun KQ hK=>?_);go_simp
          
          refine hK.out _ _ ?_;clear hK KQ;have hap5:=Aprt.step hap.out.symm pA hwh5;have po5:=pA.kept hg5 (Aprt.ne hap.out.symm);have gr6:=grown_setCell x5 g10 1 (.slice a5 (m1+1) c5);have hS6:=sd1_set hS5 (.slice a5 (m1+1) c5);have ho6:=ho5.kept gr6 (.inr (ownS_ne ho5 hS5));have po6:=po5.kept gr6 (.inr (ownS_ne po5 hS5));have hb6:=below_row hb5 gr6 HG10.out;rw [← flatP_snoc it1 (E,u)] at ho6;have HF6:=hidden (And.intro ho6 (And.intro po6 (And.intro hap5 (And.intro hS6 hb6))));generalize x5.setCell ⟨g10,1,none⟩ (.slice a5 (m1+1) c5)=x6 at *;clear hap5 po5 gr6 hS6 ho6 po6 hb6 hS5 hb5 ho5 hg5 hwh5 oA pA dA hHeld HS hcell hfr
          go_wp2_with fail
          exact ⟨⟨k+1,m0,m1+1,it0,it1++[(E,u)],a0,a5,c0,c5,by omega,HL2.out.1,HL2.out.2,by go_num,HLN,HMP,HVL,HF6.out.2.1,HF6.out.1,HF6.out.2.2.1.symm,HF6.out.2.2.2.1,HF6.out.2.2.2.2⟩,by simp [intOf];omega⟩
    · obtain rfl:k=n:=by omega
      have hta:es.take k=es:=List.take_of_length_le (by rw [← HN.out];exact Nat.le_refl _);have hmp:=hmaps.out;rw [hta] at hmp;have hperm:=sideOf_perm es d hd;have hsum:(sideOf es d 0).length+(sideOf es d 1).length=k:=by
        rw [← List.length_append,hperm.length_eq];exact HN.out.symm
      have hl0:(sideOf es d 0).length=m0:=by rw [← hmp.1,List.length_map];exact hlen2.out.1
      have hl1:(sideOf es d 1).length=m1:=by rw [← hmp.2,List.length_map];exact hlen2.out.2
      have hmm:m0+m1=k:=by omega
      have HSL:Hid (∀q∈stB g gs vp vf cs,q<w.heap.size):=HP.out.st.lts;have HG:Hid (g10 ∉ stB g gs vp vf cs):=fun e=>by
        have h1:=HSL.out _ e;have h2:=HG10.out;omega
      have K0:=hidden (side_prs HSL.out HP.out.prs hbw.out hlen2.out.1 hmp.1 (fun p hp=>hvals.out p (.inl hp)) ho0.out);have K1:=hidden (side_prs HSL.out HP.out.prs hbw.out hlen2.out.2 hmp.2 (fun p hp=>hvals.out p (.inr hp)) ho1.out);have hroom:=HP.out.room;rw [← HN.out] at hroom;have hmul:k * (257-d)=m0 * (256-d)+m1 * (256-d)+k:=by
        rw [show 257-d=(256-d)+1 by omega,Nat.mul_add,Nat.mul_one,← hmm,Nat.add_mul]
      have P0:=hidden (HP.out.sub hd 0 (HP.out.st.grow hbw.out) HP.out.wf (HP.out.laid.grow hbw.out) K0.out (by rw [hl0];omega));have C0:=hidden (HIHd.out wr vp vf cs _ _ _ P0.out);have HST:Hid (∀w2 (h1:Nat) cs1 vp1 vf1,Bd cs (sideOf es d 0) (d+1) h1 cs1→Stm w2 g gs vp1 vf1 room cs1 []→Mod (stB g gs vp vf cs) wr w2→New (stB g gs vp vf cs) wr (stB g gs vp1 vf1 cs1)→w2.cell? ⟨g10,1,none⟩=some (.slice a1 m1 c1)∧BdPre w2 g gs vp1 vf1 room cs1 (.slice a1 m1 c1) (fun i=>(it1.getD i (e00,undef)).2) (sideOf es d 1) (d+1)):=fun w2 h1 cs1 vp1 vf1 bd1 st1 m1' n1=>by
        have hnum:=bd1.num;rw [hl0,show 257-(d+1)=256-d by omega] at hnum;refine ⟨sd1 (hblk.out.mod m1' HG.out),HP.out.sub hd 1 st1 bd1.wf ((HP.out.laid.grow hbw.out).turn m1' n1) (K1.out.turn m1' n1) (by rw [hl1];omega)⟩
      have HFI:Hid (∀w2 w3 (h1 h2:Nat) cs1 cs2 vp1 vf1 vp2 vf2,Bd cs (sideOf es d 0) (d+1) h1 cs1→Mod (stB g gs vp vf cs) wr w2→New (stB g gs vp vf cs) wr (stB g gs vp1 vf1 cs1)→Bd cs1 (sideOf es d 1) (d+1) h2 cs2→Stm w3 g gs vp2 vf2 room cs2 []→Mod (stB g gs vp1 vf1 cs1) w2 w3→New (stB g gs vp1 vf1 cs1) w2 (stB g gs vp2 vf2 cs2)→Kc 32 #[.pointer (some ⟨g,0,none⟩),.int .i64 (d:Int),.int .i64 (h1:Int),.int .i64 (h2:Int)] w3 fun e w4=>∃y:Nat,e=.returned (.tuple #[.int .i64 (y:Int),.int .i64 0])∧BdPost w g gs (stB g gs vp vf cs) room cs es d (.returned (.tuple #[.int .i64 (y:Int),.bool true])) w4):=fun w2 w3 h1 h2 cs1 cs2 vp1 vf1 vp2 vf2 bd1 m1' n1 bd2 st2 m2 n2=>by
        have hnum1:=bd1.num;have hnum2:=bd2.num;rw [hl0,show 257-(d+1)=256-d by omega] at hnum1;rw [hl1,show 257-(d+1)=256-d by omega] at hnum2;obtain ⟨ma,mb,u,hu,hf,hB⟩:=Bd.two hd (by rw [← HN.out];exact hn) HP.out.same bd1 bd2;have A1:=(Mod.of_below hbw.out (stB g gs vp vf cs)).trans' m1';have N1:New (stB g gs vp vf cs) w (stB g gs vp1 vf1 cs1):=(New.refl _ w).trans hbw.out.size n1;have A2:=A1.trans N1 m2;have N2:=N1.trans A1.size n2;refine (innerS_ok st2 bd2.wf d h1 h2 hd ma mb u hu hf ((HP.out.laid) _ A2) (fun q=>by have:=q.2;omega)).mono ?_;rintro e w4 ⟨K,hK,rfl,t⟩;exact ⟨cs2.length+1,rfl,cs2.length+1,_,rfl,hB K hK,sturn_then A2 N2 t⟩
      have cd0:wr.cell? ⟨g10,0,none⟩=some (.slice a0 m0 c0):=sd0 hblk.out;have cd1:wr.cell? ⟨g10,1,none⟩=some (.slice a1 m1 c1):=sd1 hblk.out;have hwd:wrap64 ((d:Int)+1)=(d:Int)+1:=Go.IntWalk.wrap64_in _ (by omega);have nlt: ¬(k:Int)<(k:Int):=by omega
      clear hta hmp hperm hsum hl0 hl1 hmul hroom K0 K1 hmaps hvals hlen2 ho0 ho1 hap hlt hk HPB P0
      by_cases q:m0=k
      · have e1:m1=0:=by omega
        subst e1;have y2: ¬(((0:Nat):Int)=(k:Int)):=by omega
        have y3: ¬((0:Int)=(k:Int)):=by omega
        subst q
        go_wp2_with (first
          |(go_at_call 8;have mk:=mkB1;clear mk;refine C1.out.mono ?_;rintro e w3 ⟨h2,cs2,rfl,bd2,⟨vp2,vf2,st2,m2',n2⟩⟩;have F:=hidden (HFI.out w2 w3 h1 h2 cs1 cs2 vp1 vf1 vp2 vf2 BD1.out M1.out N1.out bd2 st2 m2' n2);clear bd2 st2 m2' n2)
          |(go_at_call 8;refine C0.out.mono ?_;rintro e w2 ⟨h1,cs1,rfl,bd1,⟨vp1,vf1,st1,m1',n1⟩⟩;obtain ⟨cd2,P1⟩:=HST.out w2 h1 cs1 vp1 vf1 bd1 st1 m1' n1;have C1:=hidden (HIHd.out w2 vp1 vf1 cs1 _ _ _ P1);have BD1:=hidden bd1;have M1:=hidden m1';have N1:=hidden n1;clear P1 bd1 st1 m1' n1;have mkB1:Hid True:=trivial)
          |(go_at_call 32;refine F.out.mono ?_;rintro e w4 ⟨y,rfl,hp⟩;have HPO:=hidden hp;clear hp))
        go_ret2;exact HPO.out
      · have y2: ¬((m0:Int)=(k:Int)):=by omega
        go_wp2_with (first
          |(go_at_call 8;have mk:=mkB1;clear mk;refine C1.out.mono ?_;rintro e w3 ⟨h2,cs2,rfl,bd2,⟨vp2,vf2,st2,m2',n2⟩⟩;have F:=hidden (HFI.out w2 w3 h1 h2 cs1 cs2 vp1 vf1 vp2 vf2 BD1.out M1.out N1.out bd2 st2 m2' n2);clear bd2 st2 m2' n2)
          |(go_at_call 8;refine C0.out.mono ?_;rintro e w2 ⟨h1,cs1,rfl,bd1,⟨vp1,vf1,st1,m1',n1⟩⟩;obtain ⟨cd2,P1⟩:=HST.out w2 h1 cs1 vp1 vf1 bd1 st1 m1' n1;have C1:=hidden (HIHd.out w2 vp1 vf1 cs1 _ _ _ P1);have BD1:=hidden bd1;have M1:=hidden m1';have N1:=hidden n1;clear P1 bd1 st1 m1' n1;have mkB1:Hid True:=trivial)
          |(go_at_call 32;refine F.out.mono ?_;rintro e w4 ⟨y,rfl,hp⟩;have HPO:=hidden hp;clear hp))
        go_ret2;exact HPO.out

theorem build_all:∀(n d:Nat),d+n=256→∀(w:World) (g gs:Nat) (vp vf:Value) (room:Nat) (cs:Lz) (v:Value) (V:Nat→Value) (es:List Ent),BdPre w g gs vp vf room cs v V es d→Kc 8 #[.pointer (some ⟨g,0,none⟩),v,.int .i64 (d:Int)] w (BdPost w g gs (stB g gs vp vf cs) room cs es d)
  | 0,d,hd,w,g,gs,vp,vf,room,cs,v,V,es,p=>by
    refine build_few p (by omega) ?_
    match es,p with
    | [],_=>simp
    | [_],_=>simp
    | a::b::l,p=>
      exfalso;have h1:=List.rel_of_pairwise_cons p.apart (List.mem_cons_self (a:=b) (l:=l));exact h1 (key_ext (p.prs.now.keys a (by simp)) (p.prs.now.keys b (by simp)) fun j hj=>p.same a (by simp) b (by simp) j (by omega))
  | n+1,d,hd,w,g,gs,vp,vf,room,cs,v,V,es,p=>by
    by_cases h:es.length≤1
    · exact build_few p (by omega) h
    · exact build_more p (by omega) (by omega) (fun w vp vf cs v V es p'=>build_all n (d+1) (by omega) w g gs vp vf room cs v V es p')

end Go.Proofs.YtabiglnmfdpcfaaGreatDoor
